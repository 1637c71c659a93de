/-
  Formulas in memory: signs as cells, numbers as cells; how they come in.
-/
import Derived.Test.YtcpoppfifadbiaaLaw
import Derived.Test.YtcpoppfifadbiaaFlat
import Derived.Test.YtcpoppfifadbiaaForm
import Derived.Deep.SlicePairs
import Derived.Lib.SmallJoins
namespace Go.Proofs.Ytcpoppfifadbiaa
open Go.ChangeShapes Go.WideShapes Go.ChangeAt Go.RowKit Go.Joins Go.Deep

/-- signs as cells -/
def tv (l : List (Int × Int)) : List Value := l.flatMap fun t => [.int .u8 t.1, .int .i64 t.2]
/-- numbers as cells -/
def iv (l : List Int) : List Value := l.map (Value.int .i64)
theorem tv_cons (t : Int × Int) (l : List (Int × Int)) : tv (t :: l) = .int .u8 t.1 :: .int .i64 t.2 :: tv l := rfl
theorem tv_append (l m : List (Int × Int)) : tv (l ++ m) = tv l ++ tv m := by simp [tv]
theorem tv_length (l : List (Int × Int)) : (tv l).length = l.length * 2 := by
  induction l with
  | nil => rfl
  | cons t l ih => rw [tv_cons]; simp [ih]; omega
theorem tv_one (l : List (Int × Int)) : ∀ u ∈ tv l, u.oneCell' = true := by
  intro u hu
  simp only [tv, List.mem_flatMap, List.mem_cons, List.not_mem_nil, or_false] at hu
  obtain ⟨t, _, rfl | rfl⟩ := hu <;> rfl
theorem tv_get : ∀ (l : List (Int × Int)) (k : Nat), k < l.length → (tv l)[k * 2]? = some (.int .u8 (tk l k).1) ∧ (tv l)[k * 2 + 1]? = some (.int .i64 (tk l k).2) := by
  intro l
  induction l with
  | nil => intro k h; simp at h
  | cons t l ih =>
    intro k h
    rw [tv_cons]
    match k, h with
    | 0, _ => exact ⟨rfl, rfl⟩
    | k + 1, h =>
      have := ih k (by simpa using h)
      rw [show (k + 1) * 2 = k * 2 + 1 + 1 by omega]
      simpa [tk] using this
theorem iv_length (l : List Int) : (iv l).length = l.length := by simp [iv]
theorem iv_get (l : List Int) (k : Nat) (h : k < l.length) : (iv l)[k]? = some (.int .i64 (l.getD k 0)) := by simp [iv, h]

section
variable {w : World} {B : Nat} {A : Option Addr}
theorem Sees.tok {l : List (Int × Int)} {k : Nat} (h : Sees w B A (tv l)) (hk : k < l.length) :
    ∃ b o, A = some ⟨b, o, none⟩ ∧ b < B ∧ w.cell? ⟨b, o + k * 2, none⟩ = some (.int .u8 (tk l k).1) ∧ w.cell? ⟨b, o + k * 2 + 1, none⟩ = some (.int .i64 (tk l k).2) := by
  obtain ⟨b, o, e, hb, hc⟩ := h.flat (by rw [tv_length]; omega)
  have := tv_get l k hk
  exact ⟨b, o, e, hb, hc _ _ this.1, hc _ _ this.2⟩
theorem Sees.int {l : List Int} {k : Nat} (h : Sees w B A (iv l)) (hk : k < l.length) : ∃ b o, A = some ⟨b, o, none⟩ ∧ b < B ∧ w.cell? ⟨b, o + k, none⟩ = some (.int .i64 (l.getD k 0)) := by
  obtain ⟨b, o, e, hb, hc⟩ := h.flat (by rw [iv_length]; omega)
  exact ⟨b, o, e, hb, hc _ _ (iv_get l k hk)⟩
end

/-- signs as they come in -/
def TokIn (t : Int × Int) : Prop := 0 ≤ t.1 ∧ t.1 ≤ 255 ∧ I64 t.2

section
variable {H : Type} {enc : TypeId × Value → H} {P : Program} {w : World} {base : Nat} {spare : Nat → Bool} {held : Bool}

theorem open_i64s {r : Reach} {b0 : Nat} {t e : TypeId} {v : Value} {d : DataW H} {ps : List MemPlace} (ht : P.underlying t = some (.slice e)) (he : P.underlying e = some (.int .i64)) (hc : P.cellsOf e = 1)
    (hval : Value.okWide P w r b0 t v) (hd : DataW.Trod enc P w base spare held t v d ps) :
    ∃ (A : Option Addr) (n c : Nat) (l : List Int), v = .slice A n c ∧ l.length = n ∧ n ≤ c ∧ c ≤ maxLen ∧ Sees w w.heap.size A (iv l) ∧ ∀ x ∈ l, I64 x := by
  obtain ⟨A, n, c, rfl⟩ := okWide_slice ht hval
  obtain ⟨fuel, hf⟩ := hd
  rcases open_ints ht he hc hf with ⟨hcs, hx⟩ | ⟨a, len, cap, zs, hcs, _, hl, hm, hz, _, hcell, hwf⟩
  · simp [Value.cells] at hcs
    obtain ⟨rfl, rfl, rfl⟩ := hcs
    exact ⟨none, 0, 0, [], rfl, rfl, by omega, by simp [maxLen], Sees.empty _ _ _, by simp⟩
  · simp [Value.cells] at hcs
    obtain ⟨rfl, rfl, rfl⟩ := hcs
    have hzl : n ≤ zs.length := by
      rw [hz]
      split <;> omega
    refine ⟨some a, n, c, zs.take n, rfl, by simp; omega, hl, hm, fun h0 => ?_, fun x hx => ?_⟩
    · have hn : 0 < n := by simp [iv] at h0; omega
      have h1 := hcell 0 (by omega)
      refine ⟨a, rfl, ?_, fun j u hu => ?_⟩
      · have := World.block_lt_of_cell? w _ h1
        rwa [add_block] at this
      · have hj : j < n := by
          have := (List.getElem?_eq_some_iff.1 hu).1
          simp [iv] at this
          omega
        have hjl : j < zs.length := by omega
        rw [hcell j hjl, ← hu, iv_get _ j (by simp; omega)]
        simp [hj]
    · have hw := hwf x (List.mem_of_mem_take hx)
      unfold I64
      simpa [Lit.wf, IntKind.min, IntKind.max, IntKind.signed, IntKind.bits] using hw

theorem list_of {α : Type} {Q : Nat → α → Prop} : ∀ n : Nat, (∀ k, k < n → ∃ x, Q k x) → ∃ l : List α, l.length = n ∧ ∀ k (h : k < l.length), Q k l[k] := by
  intro n
  induction n with
  | zero => exact fun _ => ⟨[], rfl, fun k h => by simp at h⟩
  | succ n ih =>
    intro h
    obtain ⟨l, hl, hq⟩ := ih fun k hk => h k (by omega)
    obtain ⟨x, hx⟩ := h n (by omega)
    refine ⟨l ++ [x], by simp [hl], fun k hk => ?_⟩
    rw [List.getElem_append]
    split
    · exact hq k _
    · have : k = n := by simp at hk; omega
      subst this
      simpa using hx

end
end Go.Proofs.Ytcpoppfifadbiaa