/-
  Texts of this claim put together: Tab.
-/
import Derived.Test.YtecbpmnolgkllaaJ14
import Derived.Lib.SmallJoins
import Derived.Deep.Slices
/-
  Contracts (tables) in memory: slices that hold whatever, sets, emits, rules; how they come in.
-/
namespace Go.Proofs.Ytecbpmnolgkllaa
open Go.ChangeShapes Go.WideShapes Go.ChangeAt Go.RowKit Go.Joins Go.Deep

/-- a slice: where it lies, how much room it has, what it holds -/
structure Sl (α : Type) where
  A : Option Addr
  c : Nat
  l : List α
def Sl.v {α : Type} (s : Sl α) : Value := .slice s.A s.l.length s.c
def Sl.ok {α : Type} (cs : α → List Value) (p : World → Nat → α → Prop) (w : World) (B : Nat) (s : Sl α) : Prop :=
  s.l.length ≤ s.c ∧ s.c ≤ maxLen ∧ Sees w B s.A (s.l.flatMap cs) ∧ ∀ x ∈ s.l, p w B x
/-- what reads cells below B alone -/
def Stable {α : Type} (p : World → Nat → α → Prop) : Prop := ∀ w w' B B' x, p w B x → (∀ q : Addr, q.block < B → w'.cell? q = w.cell? q) → B ≤ B' → p w' B' x
theorem Sl.stable {α : Type} {cs : α → List Value} {p : World → Nat → α → Prop} (hp : Stable p) : Stable (Sl.ok cs p) := fun w w' B B' _ h hk hB =>
  ⟨h.1, h.2.1, (h.2.2.1.keep hk).more hB, fun y hy => hp w w' B B' y (h.2.2.2 y hy) hk hB⟩
theorem Stable.below {α : Type} {p : World → Nat → α → Prop} (hp : Stable p) {w w' : World} {B : Nat} {x : α} (h : p w B x) (hb : Below B w w') : p w' B x := hp w w' B B x h (fun _ hq => hb.cell hq) (Nat.le_refl _)
theorem Stable.more {α : Type} {p : World → Nat → α → Prop} (hp : Stable p) {w : World} {B B' : Nat} {x : α} (h : p w B x) (hB : B ≤ B') : p w B' x := hp w w B B' x h (fun _ _ => rfl) hB

def tokC (t : Int × Int) : List Value := [.int .u8 t.1, .int .i64 t.2]
theorem tv_flat (l : List (Int × Int)) : tv l = l.flatMap tokC := rfl
abbrev TokS := Sl (Int × Int)
def toksOk (w : World) (B : Nat) (s : TokS) : Prop := Sl.ok tokC (fun _ _ t => TokIn t) w B s
theorem toks_stable : Stable toksOk := Sl.stable fun _ _ _ _ _ h _ _ => h

structure SetM where
  var : Int
  val : TokS
def SetM.cs (s : SetM) : List Value := [.int .i64 s.var, s.val.v]
def SetM.ok (w : World) (B : Nat) (s : SetM) : Prop := I64 s.var ∧ toksOk w B s.val
theorem set_stable : Stable SetM.ok := fun w w' B B' x h hk hB => ⟨h.1, toks_stable w w' B B' x.val h.2 hk hB⟩
def setsOk (w : World) (B : Nat) (s : Sl SetM) : Prop := Sl.ok SetM.cs SetM.ok w B s
theorem sets_stable : Stable setsOk := Sl.stable set_stable

structure EmM where
  tg : Int
  ac : Int
  arg : TokS
def EmM.cs (e : EmM) : List Value := [.int .u8 e.tg, .int .i64 e.ac, e.arg.v]
def EmM.ok (w : World) (B : Nat) (e : EmM) : Prop := (0 ≤ e.tg ∧ e.tg ≤ 255) ∧ I64 e.ac ∧ toksOk w B e.arg
theorem em_stable : Stable EmM.ok := fun w w' B B' x h hk hB => ⟨h.1, h.2.1, toks_stable w w' B B' x.arg h.2.2 hk hB⟩
def emsOk (w : World) (B : Nat) (s : Sl EmM) : Prop := Sl.ok EmM.cs EmM.ok w B s
theorem ems_stable : Stable emsOk := Sl.stable em_stable

structure RuM where
  fr : Int
  ac : Int
  pa : Int
  tt : Int
  gu : TokS
  se : Sl SetM
  em : Sl EmM
def RuM.cs (r : RuM) : List Value := [.int .i64 r.fr, .int .i64 r.ac, .int .i64 r.pa, .int .i64 r.tt, r.gu.v, r.se.v, r.em.v]
def RuM.ok (w : World) (B : Nat) (r : RuM) : Prop := (I64 r.fr ∧ I64 r.ac ∧ I64 r.pa ∧ I64 r.tt) ∧ toksOk w B r.gu ∧ setsOk w B r.se ∧ emsOk w B r.em
theorem ru_stable : Stable RuM.ok := fun w w' B B' x h hk hB => ⟨h.1, toks_stable w w' B B' x.gu h.2.1 hk hB, sets_stable w w' B B' x.se h.2.2.1 hk hB, ems_stable w w' B B' x.em h.2.2.2 hk hB⟩
def rusOk (w : World) (B : Nat) (s : Sl RuM) : Prop := Sl.ok RuM.cs RuM.ok w B s
theorem rus_stable : Stable rusOk := Sl.stable ru_stable
def RuM.v (r : RuM) : Value := .agg #[.int .i64 r.fr, .int .i64 r.ac, .int .i64 r.pa, .int .i64 r.tt, r.gu.v, r.se.v, r.em.v]
def SetM.v (s : SetM) : Value := .agg #[.int .i64 s.var, s.val.v]
def EmM.v (e : EmM) : Value := .agg #[.int .u8 e.tg, .int .i64 e.ac, e.arg.v]
/-- a contract as a value -/
def tabV (st vs : Int) (s : Sl RuM) : Value := .agg #[.int .i64 st, .int .i64 vs, s.v]

theorem flat_get {α : Type} {cs : α → List Value} {q : Nat} (hcs : ∀ x, (cs x).length = q) : ∀ (l : List α) (k j : Nat) (x : α), l[k]? = some x → j < q → (l.flatMap cs)[k * q + j]? = (cs x)[j]? := by
  intro l
  induction l with
  | nil => intro k j x h; simp at h
  | cons y l ih =>
    intro k j x h hj
    rw [List.flatMap_cons]
    match k, h with
    | 0, h =>
      simp at h
      subst h
      rw [Nat.zero_mul, Nat.zero_add, List.getElem?_append_left (by rw [hcs]; exact hj)]
    | k + 1, h =>
      rw [List.getElem?_append_right (by rw [hcs, Nat.succ_mul]; omega), hcs, show (k + 1) * q + j - q = k * q + j by rw [Nat.succ_mul]; omega]
      exact ih k j x (by simpa using h) hj
theorem flat_len {α : Type} {cs : α → List Value} {q : Nat} (hcs : ∀ x, (cs x).length = q) (l : List α) : (l.flatMap cs).length = l.length * q := by
  induction l with
  | nil => simp
  | cons y l ih => rw [List.flatMap_cons, List.length_append, hcs, ih, List.length_cons, Nat.succ_mul]; omega

section
variable {w : World} {B : Nat} {A : Option Addr}
theorem Sees.at {α : Type} {cs : α → List Value} {q : Nat} (hcs : ∀ x, (cs x).length = q) (hq : 0 < q) {l : List α} {k : Nat} {x : α} (h : Sees w B A (l.flatMap cs)) (hk : l[k]? = some x) :
    ∃ b o, A = some ⟨b, o, none⟩ ∧ b < B ∧ ∀ j u, (cs x)[j]? = some u → w.cell? ⟨b, o + k * q + j, none⟩ = some u := by
  have hlt : k < l.length := (List.getElem?_eq_some_iff.1 hk).1
  obtain ⟨b, o, e, hb, hc⟩ := h.flat (by rw [flat_len hcs]; exact Nat.mul_pos (by omega) hq)
  refine ⟨b, o, e, hb, fun j u hu => ?_⟩
  have hj : j < q := by have := (List.getElem?_eq_some_iff.1 hu).1; rwa [hcs] at this
  have := hc (k * q + j) u (by rw [flat_get hcs l k j x hk hj]; exact hu)
  rwa [← Nat.add_assoc] at this
theorem Sees.set {l : List SetM} {k : Nat} {x : SetM} (h : Sees w B A (l.flatMap SetM.cs)) (hk : l[k]? = some x) :
    ∃ b o, A = some ⟨b, o, none⟩ ∧ b < B ∧ w.cell? ⟨b, o + k * 2, none⟩ = some (.int .i64 x.var) ∧ w.cell? ⟨b, o + k * 2 + 1, none⟩ = some (.slice x.val.A x.val.l.length x.val.c) := by
  obtain ⟨b, o, e, hb, hc⟩ := h.at (q := 2) (fun _ => rfl) (by omega) hk
  exact ⟨b, o, e, hb, hc 0 _ rfl, hc 1 _ rfl⟩
theorem Sees.em {l : List EmM} {k : Nat} {x : EmM} (h : Sees w B A (l.flatMap EmM.cs)) (hk : l[k]? = some x) :
    ∃ b o, A = some ⟨b, o, none⟩ ∧ b < B ∧ w.cell? ⟨b, o + k * 3, none⟩ = some (.int .u8 x.tg) ∧ w.cell? ⟨b, o + k * 3 + 1, none⟩ = some (.int .i64 x.ac) ∧ w.cell? ⟨b, o + k * 3 + 2, none⟩ = some (.slice x.arg.A x.arg.l.length x.arg.c) := by
  obtain ⟨b, o, e, hb, hc⟩ := h.at (q := 3) (fun _ => rfl) (by omega) hk
  exact ⟨b, o, e, hb, hc 0 _ rfl, hc 1 _ rfl, hc 2 _ rfl⟩
theorem Sees.ru {l : List RuM} {k : Nat} {x : RuM} (h : Sees w B A (l.flatMap RuM.cs)) (hk : l[k]? = some x) :
    ∃ b o, A = some ⟨b, o, none⟩ ∧ b < B ∧ w.cell? ⟨b, o + k * 7, none⟩ = some (.int .i64 x.fr) ∧ w.cell? ⟨b, o + k * 7 + 1, none⟩ = some (.int .i64 x.ac) ∧ w.cell? ⟨b, o + k * 7 + 2, none⟩ = some (.int .i64 x.pa) ∧
      w.cell? ⟨b, o + k * 7 + 3, none⟩ = some (.int .i64 x.tt) ∧ w.cell? ⟨b, o + k * 7 + 4, none⟩ = some (.slice x.gu.A x.gu.l.length x.gu.c) ∧ w.cell? ⟨b, o + k * 7 + 5, none⟩ = some (.slice x.se.A x.se.l.length x.se.c) ∧ w.cell? ⟨b, o + k * 7 + 6, none⟩ = some (.slice x.em.A x.em.l.length x.em.c) := by
  obtain ⟨b, o, e, hb, hc⟩ := h.at (q := 7) (fun _ => rfl) (by omega) hk
  exact ⟨b, o, e, hb, hc 0 _ rfl, hc 1 _ rfl, hc 2 _ rfl, hc 3 _ rfl, hc 4 _ rfl, hc 5 _ rfl, hc 6 _ rfl⟩
end

section
variable {H : Type} {enc : TypeId × Value → H} {P : Program} {w : World} {base : Nat} {spare : Nat → Bool} {held : Bool}

theorem open_sl {α : Type} (cs : α → List Value) (Pr : α → Prop) {q : Nat} (hq : 0 < q) {t e : TypeId} (ht : P.underlying t = some (.slice e)) (hC : P.cellsOf e = q) (hcs : ∀ x, (cs x).length = q)
    (hel : ∀ n xs y, xs.length = q → DataW.trod enc P w base spare held n e xs = some y → ∃ x, xs = cs x ∧ Pr x) {fuel : Nat} {v : Value} {x : DataW H × List MemPlace} (h : DataW.trod enc P w base spare held fuel t [v] = some x) :
    ∃ s : Sl α, v = s.v ∧ s.l.length ≤ s.c ∧ s.c ≤ maxLen ∧ Sees w w.heap.size s.A (s.l.flatMap cs) ∧ ∀ x ∈ s.l, Pr x := by
  rcases open_slice ht h with ⟨hv, _⟩ | ⟨a, len, cap, m, n, D, Pl, hv, hb, hl, hm, hmm, hx, hi⟩
  · injection hv with hv _
    subst hv
    exact ⟨⟨none, 0, []⟩, rfl, by simp, by simp [maxLen], Sees.empty _ _ _, by simp⟩
  · injection hv with hv _
    subst hv
    have hlm : len ≤ m := by rw [hmm]; split <;> omega
    obtain ⟨l, hll, hlq⟩ := list_of (Q := fun k (x : α) => (∀ j, j < q → w.cell? (a.add (k * q + j)) = (cs x)[j]?) ∧ Pr x) len (fun k hk => by
      obtain ⟨cs', h1, h2⟩ := hi k (by omega)
      rw [hC] at h1
      obtain ⟨_, hlen, hcell⟩ := World.cells?_some h1
      obtain ⟨x, hx1, hx2⟩ := hel n cs' _ hlen h2
      refine ⟨x, fun j hj => ?_, hx2⟩
      have := hcell j hj
      rw [add_add] at this
      rw [this, hx1])
    refine ⟨⟨some a, cap, l⟩, by simp [Sl.v, hll], by simpa [hll] using hl, hm, fun h0 => ?_, fun x hx => ?_⟩
    · have h0' : 0 < l.length := by
        simp only [flat_len hcs] at h0
        exact Nat.pos_of_mul_pos_right h0
      have hc0 := (hlq 0 h0').1 0 hq
      have hsome : ∃ u, (cs l[0])[0]? = some u := ⟨_, List.getElem?_eq_getElem (by rw [hcs]; exact hq)⟩
      obtain ⟨u0, hu0⟩ := hsome
      rw [hu0] at hc0
      refine ⟨a, rfl, ?_, fun j u hu => ?_⟩
      · have := World.block_lt_of_cell? w _ hc0
        rwa [add_block] at this
      · have hj : j < l.length * q := by
          have := (List.getElem?_eq_some_iff.1 hu).1
          rwa [flat_len hcs] at this
        have hk : j / q < l.length := Nat.div_lt_of_lt_mul (by rw [Nat.mul_comm]; exact hj)
        have hr : j % q < q := Nat.mod_lt _ hq
        have ej : j / q * q + j % q = j := by rw [Nat.mul_comm]; exact Nat.div_add_mod j q
        have hg := flat_get hcs l (j / q) (j % q) _ (List.getElem?_eq_getElem hk) hr
        rw [ej] at hg
        have := (hlq (j / q) hk).1 (j % q) hr
        rw [ej] at this
        rw [this, ← hg]
        exact hu
    · obtain ⟨k, hk, rfl⟩ := List.getElem_of_mem hx
      exact (hlq k hk).2

theorem field_at {e : TypeId} {fs : Array Field} {xs : List Value} {n : Nat} {y : DataW H × List MemPlace} (he : P.underlying e = some (.struct fs)) (h : DataW.trod enc P w base spare held n e xs = some y)
    (j : Nat) {f : Field} (hj : fs[j]? = some f) {o : Nat} {ty : TypeId} {c : Value} (ht : f.type = ty) (ho : f.offset = o) (hc : P.cellsOf ty = 1) (hx : (xs.drop o).take 1 = [c]) :
    ∃ k z, DataW.trod enc P w base spare held k ty [c] = some z := by
  obtain ⟨ys, k, _, _, _, hlen, hf⟩ := DataW.trod_struct he h
  have h1 := hf j f hj
  rw [ht, ho, hc, hx] at h1
  have hjl : j < ys.length := by rw [hlen]; exact (Array.getElem?_eq_some_iff.1 hj).1
  exact ⟨k, ys[j], h1.trans (List.getElem?_eq_getElem hjl)⟩

theorem open_numI {fuel : Nat} {t : TypeId} {k : IntKind} {v : Value} {y : DataW H × List MemPlace} (ht : P.underlying t = some (.int k)) (h : DataW.trod enc P w base spare held fuel t [v] = some y) :
    ∃ n : Int, v = .int k n ∧ (Lit.int k n).wf = true := by
  obtain ⟨n, e, _, hw⟩ := DataW.trod_int ht h
  injection e with e _
  exact ⟨n, e, hw⟩
end

section
variable {H : Type} {enc : TypeId × Value → H} {w : World} {base : Nat} {spare : Nat → Bool} {held : Bool}

theorem open_i64c {n : Nat} {t : TypeId} {v : Value} {y : DataW H × List MemPlace} (ht : Try.prog.underlying t = some (.int .i64)) (h : DataW.trod enc Try.prog w base spare held n t [v] = some y) : ∃ x : Int, v = .int .i64 x ∧ I64 x := by
  obtain ⟨a, rfl, wa⟩ := open_numI ht h
  exact ⟨a, rfl, by unfold I64; simpa [Lit.wf, IntKind.min, IntKind.max, IntKind.signed, IntKind.bits] using wa⟩
theorem open_u8c {n : Nat} {t : TypeId} {v : Value} {y : DataW H × List MemPlace} (ht : Try.prog.underlying t = some (.int .u8)) (h : DataW.trod enc Try.prog w base spare held n t [v] = some y) : ∃ x : Int, v = .int .u8 x ∧ 0 ≤ x ∧ x ≤ 255 := by
  obtain ⟨a, rfl, wa⟩ := open_numI ht h
  have h2 : 0 ≤ a ∧ a ≤ 255 := by simpa [Lit.wf, IntKind.min, IntKind.max, IntKind.signed, IntKind.bits] using wa
  exact ⟨a, rfl, h2⟩

end
end Go.Proofs.Ytecbpmnolgkllaa