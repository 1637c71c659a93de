/-
  A row of a disk's calls that comes in; the law's bound on it, and its example.
-/
import Derived.Test.YtcpoppfifadbiaaSec8
import Derived.Test.YtcpoppfifadbiaaTab
import Derived.IntWalk
namespace Go.Proofs.Ytcpoppfifadbiaa
open Go.RowKit

theorem bv_flat (l : List UInt8) : l.flatMap (fun b => [Value.int .u8 (b.toNat : Int)]) = bv l := by
  induction l with
  | nil => rfl
  | cons b l ih => rw [List.flatMap_cons, ih]; rfl
/-- bytes as they come in -/
def bytesOk (w : World) (B : Nat) (s : Sl UInt8) : Prop := Sees w B s.A (bv s.l) ∧ s.l.length ≤ s.c ∧ s.c ≤ maxLen
theorem bytes_stable : Stable bytesOk := fun _ _ _ _ _ h hk hB => ⟨(h.1.keep hk).more hB, h.2⟩

/-- a call as it comes in -/
structure StM where
  ki : Int
  i : Int
  q : Int
  b : Sl UInt8
  t : Bool
  y : UInt8
def StM.cs (s : StM) : List Value := [.int .i64 s.ki, .int .i64 s.i, .int .i64 s.q, s.b.v, .bool s.t, .int .u8 (s.y.toNat : Int)]
def StM.ok (w : World) (B : Nat) (s : StM) : Prop := (I64 s.ki ∧ I64 s.i ∧ I64 s.q) ∧ bytesOk w B s.b
theorem st_stable : Stable StM.ok := fun w w' B B' x h hk hB => ⟨h.1, bytes_stable w w' B B' x.b h.2 hk hB⟩
def stepsOk (w : World) (B : Nat) (s : Sl StM) : Prop := Sl.ok StM.cs StM.ok w B s
theorem steps_stable : Stable stepsOk := Sl.stable st_stable
theorem Sees.st {w : World} {B : Nat} {A : Option Addr} {l : List StM} {k : Nat} {x : StM} (h : Sees w B A (l.flatMap StM.cs)) (hk : l[k]? = some x) :
    ∃ b o, A = some ⟨b, o, none⟩ ∧ b < B ∧ w.cell? ⟨b, o + k * 6, none⟩ = some (.int .i64 x.ki) ∧ w.cell? ⟨b, o + k * 6 + 1, none⟩ = some (.int .i64 x.i) ∧ w.cell? ⟨b, o + k * 6 + 2, none⟩ = some (.int .i64 x.q) ∧ w.cell? ⟨b, o + k * 6 + 3, none⟩ = some x.b.v ∧
      w.cell? ⟨b, o + k * 6 + 4, none⟩ = some (.bool x.t) ∧ w.cell? ⟨b, o + k * 6 + 5, none⟩ = some (.int .u8 (x.y.toNat : Int)) := by
  obtain ⟨b, o, e, hb, hc⟩ := h.at (q := 6) (fun _ => rfl) (by omega) hk
  exact ⟨b, o, e, hb, hc 0 _ rfl, hc 1 _ rfl, hc 2 _ rfl, hc 3 _ rfl, hc 4 _ rfl, hc 5 _ rfl⟩

section
open Go.ChangeShapes Go.WideShapes Go.ChangeAt
variable {H : Type} {enc : TypeId × Value → H} {w : World} {base : Nat} {spare : Nat → Bool} {held : Bool}
theorem open_byte {n : Nat} {v : Value} {y : DataW H × List MemPlace} (h : DataW.trod enc Try.prog w base spare held n 5 [v] = some y) : ∃ b : UInt8, v = .int .u8 (b.toNat : Int) := by
  obtain ⟨a, rfl, ha, hb⟩ := open_u8c Try.underlying5 h
  refine ⟨UInt8.ofNat a.toNat, ?_⟩
  rw [byte_of (by omega)]
  congr 1
  omega
set_option maxRecDepth 100000 in
theorem open_bytesc {n : Nat} {v : Value} {y : DataW H × List MemPlace} (h : DataW.trod enc Try.prog w base spare held n 38 [v] = some y) : ∃ s : Sl UInt8, v = s.v ∧ bytesOk w w.heap.size s := by
  obtain ⟨s, hv, h1, h2, h3, _⟩ := open_sl (fun b : UInt8 => [Value.int .u8 (b.toNat : Int)]) (fun _ => True) (q := 1) (by omega) Try.underlying38 (by kernel_rfl) (fun _ => rfl) (fun n xs y hl h => by
    match xs, hl with
    | [c0], _ =>
      obtain ⟨b, rfl⟩ := open_byte h
      exact ⟨b, rfl, trivial⟩) h
  rw [bv_flat] at h3
  exact ⟨s, hv, h3, h1, h2⟩
theorem open_boolc {n : Nat} {v : Value} {y : DataW H × List MemPlace} (h : DataW.trod enc Try.prog w base spare held n 4 [v] = some y) : ∃ t : Bool, v = .bool t := by
  obtain ⟨t, e, _⟩ := DataW.trod_bool Try.underlying4 h
  injection e with e _
  exact ⟨t, e⟩
set_option maxRecDepth 100000 in
theorem el_st {n : Nat} {xs : List Value} {y : DataW H × List MemPlace} (hl : xs.length = 6) (h : DataW.trod enc Try.prog w base spare held n 40 xs = some y) : ∃ t, xs = StM.cs t ∧ StM.ok w w.heap.size t := by
  match xs, hl with
  | [c0, c1, c2, c3, c4, c5], _ =>
    obtain ⟨_, _, h0⟩ := field_at Try.underlying40 h 0 rfl rfl rfl (by kernel_rfl) rfl
    obtain ⟨_, _, h1⟩ := field_at Try.underlying40 h 1 rfl rfl rfl (by kernel_rfl) rfl
    obtain ⟨_, _, h2⟩ := field_at Try.underlying40 h 2 rfl rfl rfl (by kernel_rfl) rfl
    obtain ⟨_, _, h3⟩ := field_at Try.underlying40 h 3 rfl rfl rfl (by kernel_rfl) rfl
    obtain ⟨_, _, h4⟩ := field_at Try.underlying40 h 4 rfl rfl rfl (by kernel_rfl) rfl
    obtain ⟨_, _, h5⟩ := field_at Try.underlying40 h 5 rfl rfl rfl (by kernel_rfl) rfl
    obtain ⟨a, rfl, ha⟩ := open_i64c Try.underlying3 h0
    obtain ⟨b, rfl, hb⟩ := open_i64c Try.underlying3 h1
    obtain ⟨c, rfl, hc⟩ := open_i64c Try.underlying3 h2
    obtain ⟨s, rfl, hs⟩ := open_bytesc h3
    obtain ⟨t, rfl⟩ := open_boolc h4
    obtain ⟨u, rfl⟩ := open_byte h5
    exact ⟨⟨a, b, c, s, t, u⟩, rfl, ⟨ha, hb, hc⟩, hs⟩
set_option maxRecDepth 100000 in
theorem open_steps {r : Reach} {b0 : Nat} {v : Value} {d : DataW H} {p : List MemPlace} (hv : Value.okWide Try.prog w r b0 22 v) (h : DataW.Trod enc Try.prog w base spare held 22 v d p) :
    ∃ s : Sl StM, v = s.v ∧ stepsOk w w.heap.size s := by
  obtain ⟨A, n, c, rfl⟩ := okWide_slice Try.underlying22 hv
  obtain ⟨fuel, hf⟩ := h
  obtain ⟨s, hv, h1, h2, h3, h4⟩ := open_sl StM.cs (StM.ok w w.heap.size) (q := 6) (by omega) Try.underlying22 (by kernel_rfl) (fun _ => rfl) (fun _ _ _ hl h => el_st hl h) (by simpa [Value.cells] using hf)
  exact ⟨s, hv, h1, h2, h3, h4⟩
end

/-- more than is gone through? -/
def greatD (n c : Int) (l : List StM) : Bool := decide (n < 64 ∨ 512 < n ∨ c < 1 ∨ 40 < c ∨ 60 < l.length ∨ ∃ s ∈ l, 600 < s.b.l.length)

set_option maxRecDepth 100000 in
theorem great12_any (n c : Int) (s : Sl StM) (B : Nat) (w : World) (h : stepsOk w B s) : Calls Try.prog 5 #[.int .i64 n, .int .i64 c, s.v] w fun e w' => e = .returned (.bool (greatD n c s.l)) ∧ w = w' := by
  obtain ⟨A, cp, l⟩ := s
  obtain ⟨_, _, hs, hok⟩ := h
  simp only [Sl.v] at *
  obtain ⟨m, hm⟩ : ∃ m, l.length = m := ⟨_, rfl⟩
  obtain ⟨r, hr⟩ : ∃ r, greatD n c l = r := ⟨_, rfl⟩
  rw [hm, hr]
  have HS := hide_ hs
  have HM := hide_ hm
  have HR := hide_ hr
  clear hs hok hr
  by_cases h1 : n < 64
  · obtain rfl : r = true := by rw [← HR.out]; exact decide_eq_true (.inl h1)
    clear hm
    go_enter Try.func5, Try.ntmps5
    go_wp2
    go_ret
    exact ⟨rfl, rfl⟩
  by_cases h2 : 512 < n
  · obtain rfl : r = true := by rw [← HR.out]; exact decide_eq_true (.inr (.inl h2))
    clear hm
    go_enter Try.func5, Try.ntmps5
    go_wp2
    go_ret
    exact ⟨rfl, rfl⟩
  by_cases h3 : c < 1
  · obtain rfl : r = true := by rw [← HR.out]; exact decide_eq_true (.inr (.inr (.inl h3)))
    clear hm
    go_enter Try.func5, Try.ntmps5
    go_wp2
    go_ret
    exact ⟨rfl, rfl⟩
  by_cases h4 : 40 < c
  · obtain rfl : r = true := by rw [← HR.out]; exact decide_eq_true (.inr (.inr (.inr (.inl h4))))
    clear hm
    go_enter Try.func5, Try.ntmps5
    go_wp2
    go_ret
    exact ⟨rfl, rfl⟩
  by_cases h5 : 60 < m
  · obtain rfl : r = true := by rw [← HR.out]; exact decide_eq_true (.inr (.inr (.inr (.inr (.inl (by omega))))))
    clear hm
    go_enter Try.func5, Try.ntmps5
    go_wp2
    go_ret
    exact ⟨rfl, rfl⟩
  clear hm
  go_enter Try.func5, Try.ntmps5
  go_wp2
  go_loopw [7] (fun i wr => ∃ k : Nat, k ≤ m ∧ i = .int .i64 (k : Int) ∧ (∀ j x, j < k → l[j]? = some x → x.b.l.length ≤ 600) ∧ wr = w) (fun i _ => m - (intOf i).toNat)
  case atStart => exact ⟨0, Nat.zero_le _, rfl, fun j x hj => absurd hj (by omega), rfl⟩
  case round =>
    obtain ⟨k, hk, rfl, hno, rfl⟩ := hrel
    have HNO := hide_ hno
    clear hno
    by_cases hlt : k < m
    · obtain ⟨x, hx⟩ : ∃ x, l[k]? = some x := ⟨_, List.getElem?_eq_getElem (by rw [HM.out]; exact hlt)⟩
      obtain ⟨b, o, rfl, hb, _, _, _, q3, _, _⟩ := HS.out.st hx
      have HX := hide_ hx
      clear hx
      obtain ⟨bs, hbs⟩ : ∃ bs, x.b = bs := ⟨_, rfl⟩
      rw [hbs] at q3
      have HB := hide_ hbs
      clear hbs
      obtain ⟨xa, xc, xl⟩ := bs
      simp only [Sl.v] at q3
      obtain ⟨z, hz⟩ : ∃ z, xl.length = z := ⟨_, rfl⟩
      rw [hz] at q3
      have HZ := hide_ hz
      clear hz
      by_cases h6 : 600 < z
      · obtain rfl : r = true := by
          rw [← HR.out]
          refine decide_eq_true (.inr (.inr (.inr (.inr (.inr ⟨x, List.mem_of_getElem? HX.out, ?_⟩)))))
          rw [HB.out]
          show 600 < xl.length
          rw [HZ.out]
          exact h6
        go_wp2
        go_ret
        exact ⟨rfl, rfl⟩
      · go_wp2
        go_roundw
        case rel =>
          refine ⟨k + 1, by omega, by go_num, fun j y hj hy => ?_, by first | trivial | rfl⟩
          by_cases e : j = k
          · subst e
            rw [HX.out] at hy
            injection hy with hy
            subst hy
            rw [HB.out]
            show xl.length ≤ 600
            rw [HZ.out]
            omega
          · exact HNO.out j y (by omega) hy
        case measure => simp [intOf]; omega
    · obtain rfl : k = m := by omega
      have hf : r = false := by
        rw [← HR.out]
        refine decide_eq_false ?_
        rintro (h | h | h | h | h | ⟨x, hx, hx6⟩)
        · omega
        · omega
        · omega
        · omega
        · rw [HM.out] at h
          omega
        · obtain ⟨j, hj⟩ := List.mem_iff_getElem?.1 hx
          have := HNO.out j x (by rw [← HM.out]; exact (List.getElem?_eq_some_iff.1 hj).1) hj
          omega
      subst hf
      go_wp2
      go_ret
      exact ⟨rfl, rfl⟩
end Go.Proofs.Ytcpoppfifadbiaa
