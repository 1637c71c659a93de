/-
  Texts of this claim put together: Tab, TabF, FireF, Bytes.
-/
import Derived.Test.YtnkjdijbfnmnhaaGreatJ14
import Derived.Lib.SmallJoins
import Derived.Deep.Slices
import Derived.Test.YtnkjdijbfnmnhaaGreatJ05
/-
  Contracts (tables) in memory: slices that hold whatever, sets, emits, rules; how they come in.
-/
namespace Go.Proofs.YtnkjdijbfnmnhaaGreat
open Go.ChangeShapes Go.WideShapes Go.ChangeAt Go.RowKit Go.Joins Go.Deep

/-- a slice: where it lies, how much room it has, what it holds -/
structure Sl (α : Type) where
  A : Option Addr
  c : Nat
  l : List α
def Sl.v {α : Type} (s : Sl α) : Value := .slice s.A s.l.length s.c
def Sl.ok {α : Type} (cs : α → List Value) (p : World → Nat → α → Prop) (w : World) (B : Nat) (s : Sl α) : Prop :=
  s.l.length ≤ s.c ∧ s.c ≤ maxLen ∧ Sees w B s.A (s.l.flatMap cs) ∧ ∀ x ∈ s.l, p w B x
/-- what reads cells below B alone -/
def Stable {α : Type} (p : World → Nat → α → Prop) : Prop := ∀ w w' B B' x, p w B x → (∀ q : Addr, q.block < B → w'.cell? q = w.cell? q) → B ≤ B' → p w' B' x
theorem Sl.stable {α : Type} {cs : α → List Value} {p : World → Nat → α → Prop} (hp : Stable p) : Stable (Sl.ok cs p) := fun w w' B B' _ h hk hB =>
  ⟨h.1, h.2.1, (h.2.2.1.keep hk).more hB, fun y hy => hp w w' B B' y (h.2.2.2 y hy) hk hB⟩
theorem Stable.below {α : Type} {p : World → Nat → α → Prop} (hp : Stable p) {w w' : World} {B : Nat} {x : α} (h : p w B x) (hb : Below B w w') : p w' B x := hp w w' B B x h (fun _ hq => hb.cell hq) (Nat.le_refl _)
theorem Stable.more {α : Type} {p : World → Nat → α → Prop} (hp : Stable p) {w : World} {B B' : Nat} {x : α} (h : p w B x) (hB : B ≤ B') : p w B' x := hp w w B B' x h (fun _ _ => rfl) hB

def tokC (t : Int × Int) : List Value := [.int .u8 t.1, .int .i64 t.2]
theorem tv_flat (l : List (Int × Int)) : tv l = l.flatMap tokC := rfl
abbrev TokS := Sl (Int × Int)
def toksOk (w : World) (B : Nat) (s : TokS) : Prop := Sl.ok tokC (fun _ _ t => TokIn t) w B s
theorem toks_stable : Stable toksOk := Sl.stable fun _ _ _ _ _ h _ _ => h

structure SetM where
  var : Int
  val : TokS
def SetM.cs (s : SetM) : List Value := [.int .i64 s.var, s.val.v]
def SetM.ok (w : World) (B : Nat) (s : SetM) : Prop := I64 s.var ∧ toksOk w B s.val
theorem set_stable : Stable SetM.ok := fun w w' B B' x h hk hB => ⟨h.1, toks_stable w w' B B' x.val h.2 hk hB⟩
def setsOk (w : World) (B : Nat) (s : Sl SetM) : Prop := Sl.ok SetM.cs SetM.ok w B s
theorem sets_stable : Stable setsOk := Sl.stable set_stable

structure EmM where
  tg : Int
  ac : Int
  arg : TokS
def EmM.cs (e : EmM) : List Value := [.int .u8 e.tg, .int .i64 e.ac, e.arg.v]
def EmM.ok (w : World) (B : Nat) (e : EmM) : Prop := (0 ≤ e.tg ∧ e.tg ≤ 255) ∧ I64 e.ac ∧ toksOk w B e.arg
theorem em_stable : Stable EmM.ok := fun w w' B B' x h hk hB => ⟨h.1, h.2.1, toks_stable w w' B B' x.arg h.2.2 hk hB⟩
def emsOk (w : World) (B : Nat) (s : Sl EmM) : Prop := Sl.ok EmM.cs EmM.ok w B s
theorem ems_stable : Stable emsOk := Sl.stable em_stable

structure RuM where
  fr : Int
  ac : Int
  pa : Int
  tt : Int
  gu : TokS
  se : Sl SetM
  em : Sl EmM
def RuM.cs (r : RuM) : List Value := [.int .i64 r.fr, .int .i64 r.ac, .int .i64 r.pa, .int .i64 r.tt, r.gu.v, r.se.v, r.em.v]
def RuM.ok (w : World) (B : Nat) (r : RuM) : Prop := (I64 r.fr ∧ I64 r.ac ∧ I64 r.pa ∧ I64 r.tt) ∧ toksOk w B r.gu ∧ setsOk w B r.se ∧ emsOk w B r.em
theorem ru_stable : Stable RuM.ok := fun w w' B B' x h hk hB => ⟨h.1, toks_stable w w' B B' x.gu h.2.1 hk hB, sets_stable w w' B B' x.se h.2.2.1 hk hB, ems_stable w w' B B' x.em h.2.2.2 hk hB⟩
def rusOk (w : World) (B : Nat) (s : Sl RuM) : Prop := Sl.ok RuM.cs RuM.ok w B s
theorem rus_stable : Stable rusOk := Sl.stable ru_stable
def RuM.v (r : RuM) : Value := .agg #[.int .i64 r.fr, .int .i64 r.ac, .int .i64 r.pa, .int .i64 r.tt, r.gu.v, r.se.v, r.em.v]
def SetM.v (s : SetM) : Value := .agg #[.int .i64 s.var, s.val.v]
def EmM.v (e : EmM) : Value := .agg #[.int .u8 e.tg, .int .i64 e.ac, e.arg.v]
/-- a contract as a value -/
def tabV (st vs : Int) (s : Sl RuM) : Value := .agg #[.int .i64 st, .int .i64 vs, s.v]

theorem flat_get {α : Type} {cs : α → List Value} {q : Nat} (hcs : ∀ x, (cs x).length = q) : ∀ (l : List α) (k j : Nat) (x : α), l[k]? = some x → j < q → (l.flatMap cs)[k * q + j]? = (cs x)[j]? := by
  intro l
  induction l with
  | nil => intro k j x h; simp at h
  | cons y l ih =>
    intro k j x h hj
    rw [List.flatMap_cons]
    match k, h with
    | 0, h =>
      simp at h
      subst h
      rw [Nat.zero_mul, Nat.zero_add, List.getElem?_append_left (by rw [hcs]; exact hj)]
    | k + 1, h =>
      rw [List.getElem?_append_right (by rw [hcs, Nat.succ_mul]; omega), hcs, show (k + 1) * q + j - q = k * q + j by rw [Nat.succ_mul]; omega]
      exact ih k j x (by simpa using h) hj
theorem flat_len {α : Type} {cs : α → List Value} {q : Nat} (hcs : ∀ x, (cs x).length = q) (l : List α) : (l.flatMap cs).length = l.length * q := by
  induction l with
  | nil => simp
  | cons y l ih => rw [List.flatMap_cons, List.length_append, hcs, ih, List.length_cons, Nat.succ_mul]; omega

section
variable {w : World} {B : Nat} {A : Option Addr}
theorem Sees.at {α : Type} {cs : α → List Value} {q : Nat} (hcs : ∀ x, (cs x).length = q) (hq : 0 < q) {l : List α} {k : Nat} {x : α} (h : Sees w B A (l.flatMap cs)) (hk : l[k]? = some x) :
    ∃ b o, A = some ⟨b, o, none⟩ ∧ b < B ∧ ∀ j u, (cs x)[j]? = some u → w.cell? ⟨b, o + k * q + j, none⟩ = some u := by
  have hlt : k < l.length := (List.getElem?_eq_some_iff.1 hk).1
  obtain ⟨b, o, e, hb, hc⟩ := h.flat (by rw [flat_len hcs]; exact Nat.mul_pos (by omega) hq)
  refine ⟨b, o, e, hb, fun j u hu => ?_⟩
  have hj : j < q := by have := (List.getElem?_eq_some_iff.1 hu).1; rwa [hcs] at this
  have := hc (k * q + j) u (by rw [flat_get hcs l k j x hk hj]; exact hu)
  rwa [← Nat.add_assoc] at this
theorem Sees.set {l : List SetM} {k : Nat} {x : SetM} (h : Sees w B A (l.flatMap SetM.cs)) (hk : l[k]? = some x) :
    ∃ b o, A = some ⟨b, o, none⟩ ∧ b < B ∧ w.cell? ⟨b, o + k * 2, none⟩ = some (.int .i64 x.var) ∧ w.cell? ⟨b, o + k * 2 + 1, none⟩ = some (.slice x.val.A x.val.l.length x.val.c) := by
  obtain ⟨b, o, e, hb, hc⟩ := h.at (q := 2) (fun _ => rfl) (by omega) hk
  exact ⟨b, o, e, hb, hc 0 _ rfl, hc 1 _ rfl⟩
theorem Sees.em {l : List EmM} {k : Nat} {x : EmM} (h : Sees w B A (l.flatMap EmM.cs)) (hk : l[k]? = some x) :
    ∃ b o, A = some ⟨b, o, none⟩ ∧ b < B ∧ w.cell? ⟨b, o + k * 3, none⟩ = some (.int .u8 x.tg) ∧ w.cell? ⟨b, o + k * 3 + 1, none⟩ = some (.int .i64 x.ac) ∧ w.cell? ⟨b, o + k * 3 + 2, none⟩ = some (.slice x.arg.A x.arg.l.length x.arg.c) := by
  obtain ⟨b, o, e, hb, hc⟩ := h.at (q := 3) (fun _ => rfl) (by omega) hk
  exact ⟨b, o, e, hb, hc 0 _ rfl, hc 1 _ rfl, hc 2 _ rfl⟩
theorem Sees.ru {l : List RuM} {k : Nat} {x : RuM} (h : Sees w B A (l.flatMap RuM.cs)) (hk : l[k]? = some x) :
    ∃ b o, A = some ⟨b, o, none⟩ ∧ b < B ∧ w.cell? ⟨b, o + k * 7, none⟩ = some (.int .i64 x.fr) ∧ w.cell? ⟨b, o + k * 7 + 1, none⟩ = some (.int .i64 x.ac) ∧ w.cell? ⟨b, o + k * 7 + 2, none⟩ = some (.int .i64 x.pa) ∧
      w.cell? ⟨b, o + k * 7 + 3, none⟩ = some (.int .i64 x.tt) ∧ w.cell? ⟨b, o + k * 7 + 4, none⟩ = some (.slice x.gu.A x.gu.l.length x.gu.c) ∧ w.cell? ⟨b, o + k * 7 + 5, none⟩ = some (.slice x.se.A x.se.l.length x.se.c) ∧ w.cell? ⟨b, o + k * 7 + 6, none⟩ = some (.slice x.em.A x.em.l.length x.em.c) := by
  obtain ⟨b, o, e, hb, hc⟩ := h.at (q := 7) (fun _ => rfl) (by omega) hk
  exact ⟨b, o, e, hb, hc 0 _ rfl, hc 1 _ rfl, hc 2 _ rfl, hc 3 _ rfl, hc 4 _ rfl, hc 5 _ rfl, hc 6 _ rfl⟩
end

section
variable {H : Type} {enc : TypeId × Value → H} {P : Program} {w : World} {base : Nat} {spare : Nat → Bool} {held : Bool}

theorem open_sl {α : Type} (cs : α → List Value) (Pr : α → Prop) {q : Nat} (hq : 0 < q) {t e : TypeId} (ht : P.underlying t = some (.slice e)) (hC : P.cellsOf e = q) (hcs : ∀ x, (cs x).length = q)
    (hel : ∀ n xs y, xs.length = q → DataW.trod enc P w base spare held n e xs = some y → ∃ x, xs = cs x ∧ Pr x) {fuel : Nat} {v : Value} {x : DataW H × List MemPlace} (h : DataW.trod enc P w base spare held fuel t [v] = some x) :
    ∃ s : Sl α, v = s.v ∧ s.l.length ≤ s.c ∧ s.c ≤ maxLen ∧ Sees w w.heap.size s.A (s.l.flatMap cs) ∧ ∀ x ∈ s.l, Pr x := by
  rcases open_slice ht h with ⟨hv, _⟩ | ⟨a, len, cap, m, n, D, Pl, hv, hb, hl, hm, hmm, hx, hi⟩
  · injection hv with hv _
    subst hv
    exact ⟨⟨none, 0, []⟩, rfl, by simp, by simp [maxLen], Sees.empty _ _ _, by simp⟩
  · injection hv with hv _
    subst hv
    have hlm : len ≤ m := by rw [hmm]; split <;> omega
    obtain ⟨l, hll, hlq⟩ := list_of (Q := fun k (x : α) => (∀ j, j < q → w.cell? (a.add (k * q + j)) = (cs x)[j]?) ∧ Pr x) len (fun k hk => by
      obtain ⟨cs', h1, h2⟩ := hi k (by omega)
      rw [hC] at h1
      obtain ⟨_, hlen, hcell⟩ := World.cells?_some h1
      obtain ⟨x, hx1, hx2⟩ := hel n cs' _ hlen h2
      refine ⟨x, fun j hj => ?_, hx2⟩
      have := hcell j hj
      rw [add_add] at this
      rw [this, hx1])
    refine ⟨⟨some a, cap, l⟩, by simp [Sl.v, hll], by simpa [hll] using hl, hm, fun h0 => ?_, fun x hx => ?_⟩
    · have h0' : 0 < l.length := by
        simp only [flat_len hcs] at h0
        exact Nat.pos_of_mul_pos_right h0
      have hc0 := (hlq 0 h0').1 0 hq
      have hsome : ∃ u, (cs l[0])[0]? = some u := ⟨_, List.getElem?_eq_getElem (by rw [hcs]; exact hq)⟩
      obtain ⟨u0, hu0⟩ := hsome
      rw [hu0] at hc0
      refine ⟨a, rfl, ?_, fun j u hu => ?_⟩
      · have := World.block_lt_of_cell? w _ hc0
        rwa [add_block] at this
      · have hj : j < l.length * q := by
          have := (List.getElem?_eq_some_iff.1 hu).1
          rwa [flat_len hcs] at this
        have hk : j / q < l.length := Nat.div_lt_of_lt_mul (by rw [Nat.mul_comm]; exact hj)
        have hr : j % q < q := Nat.mod_lt _ hq
        have ej : j / q * q + j % q = j := by rw [Nat.mul_comm]; exact Nat.div_add_mod j q
        have hg := flat_get hcs l (j / q) (j % q) _ (List.getElem?_eq_getElem hk) hr
        rw [ej] at hg
        have := (hlq (j / q) hk).1 (j % q) hr
        rw [ej] at this
        rw [this, ← hg]
        exact hu
    · obtain ⟨k, hk, rfl⟩ := List.getElem_of_mem hx
      exact (hlq k hk).2

theorem field_at {e : TypeId} {fs : Array Field} {xs : List Value} {n : Nat} {y : DataW H × List MemPlace} (he : P.underlying e = some (.struct fs)) (h : DataW.trod enc P w base spare held n e xs = some y)
    (j : Nat) {f : Field} (hj : fs[j]? = some f) {o : Nat} {ty : TypeId} {c : Value} (ht : f.type = ty) (ho : f.offset = o) (hc : P.cellsOf ty = 1) (hx : (xs.drop o).take 1 = [c]) :
    ∃ k z, DataW.trod enc P w base spare held k ty [c] = some z := by
  obtain ⟨ys, k, _, _, _, hlen, hf⟩ := DataW.trod_struct he h
  have h1 := hf j f hj
  rw [ht, ho, hc, hx] at h1
  have hjl : j < ys.length := by rw [hlen]; exact (Array.getElem?_eq_some_iff.1 hj).1
  exact ⟨k, ys[j], h1.trans (List.getElem?_eq_getElem hjl)⟩

theorem open_numI {fuel : Nat} {t : TypeId} {k : IntKind} {v : Value} {y : DataW H × List MemPlace} (ht : P.underlying t = some (.int k)) (h : DataW.trod enc P w base spare held fuel t [v] = some y) :
    ∃ n : Int, v = .int k n ∧ (Lit.int k n).wf = true := by
  obtain ⟨n, e, _, hw⟩ := DataW.trod_int ht h
  injection e with e _
  exact ⟨n, e, hw⟩
end

section
variable {H : Type} {enc : TypeId × Value → H} {w : World} {base : Nat} {spare : Nat → Bool} {held : Bool}

theorem open_i64c {n : Nat} {t : TypeId} {v : Value} {y : DataW H × List MemPlace} (ht : Tryz.prog.underlying t = some (.int .i64)) (h : DataW.trod enc Tryz.prog w base spare held n t [v] = some y) : ∃ x : Int, v = .int .i64 x ∧ I64 x := by
  obtain ⟨a, rfl, wa⟩ := open_numI ht h
  exact ⟨a, rfl, by unfold I64; simpa [Lit.wf, IntKind.min, IntKind.max, IntKind.signed, IntKind.bits] using wa⟩
theorem open_u8c {n : Nat} {t : TypeId} {v : Value} {y : DataW H × List MemPlace} (ht : Tryz.prog.underlying t = some (.int .u8)) (h : DataW.trod enc Tryz.prog w base spare held n t [v] = some y) : ∃ x : Int, v = .int .u8 x ∧ 0 ≤ x ∧ x ≤ 255 := by
  obtain ⟨a, rfl, wa⟩ := open_numI ht h
  have h2 : 0 ≤ a ∧ a ≤ 255 := by simpa [Lit.wf, IntKind.min, IntKind.max, IntKind.signed, IntKind.bits] using wa
  exact ⟨a, rfl, h2⟩

set_option maxRecDepth 100000 in
theorem el_tok {n : Nat} {xs : List Value} {y : DataW H × List MemPlace} (hl : xs.length = 2) (h : DataW.trod enc Tryz.prog w base spare held n 334 xs = some y) : ∃ t, xs = tokC t ∧ TokIn t := by
  match xs, hl with
  | [c0, c1], _ =>
    obtain ⟨_, _, h0⟩ := field_at Tryz.underlying334 h 0 rfl rfl rfl (by kernel_rfl) rfl
    obtain ⟨_, _, h1⟩ := field_at Tryz.underlying334 h 1 rfl rfl rfl (by kernel_rfl) rfl
    obtain ⟨a, rfl, ha⟩ := open_u8c Tryz.underlying5 h0
    obtain ⟨b, rfl, hb⟩ := open_i64c Tryz.underlying2 h1
    exact ⟨(a, b), rfl, ha.1, ha.2, hb⟩
theorem open_tokc {n : Nat} {v : Value} {y : DataW H × List MemPlace} (h : DataW.trod enc Tryz.prog w base spare held n 170 [v] = some y) : ∃ s : TokS, v = s.v ∧ toksOk w w.heap.size s := by
  obtain ⟨s, hv, h1, h2, h3, h4⟩ := open_sl tokC TokIn (q := 2) (by omega) Tryz.underlying170 (by kernel_rfl) (fun _ => rfl) (fun _ _ _ hl h => el_tok hl h) h
  exact ⟨s, hv, h1, h2, h3, h4⟩

set_option maxRecDepth 100000 in
theorem el_set {n : Nat} {xs : List Value} {y : DataW H × List MemPlace} (hl : xs.length = 2) (h : DataW.trod enc Tryz.prog w base spare held n 176 xs = some y) : ∃ t, xs = SetM.cs t ∧ SetM.ok w w.heap.size t := by
  match xs, hl with
  | [c0, c1], _ =>
    obtain ⟨_, _, h0⟩ := field_at Tryz.underlying176 h 0 rfl rfl rfl (by kernel_rfl) rfl
    obtain ⟨_, _, h1⟩ := field_at Tryz.underlying176 h 1 rfl rfl rfl (by kernel_rfl) rfl
    obtain ⟨a, rfl, ha⟩ := open_i64c Tryz.underlying3 h0
    obtain ⟨b, rfl, hb⟩ := open_tokc h1
    exact ⟨⟨a, b⟩, rfl, ha, hb⟩
theorem open_setc {n : Nat} {v : Value} {y : DataW H × List MemPlace} (h : DataW.trod enc Tryz.prog w base spare held n 171 [v] = some y) : ∃ s : Sl SetM, v = s.v ∧ setsOk w w.heap.size s := by
  obtain ⟨s, hv, h1, h2, h3, h4⟩ := open_sl SetM.cs (SetM.ok w w.heap.size) (q := 2) (by omega) Tryz.underlying171 (by kernel_rfl) (fun _ => rfl) (fun _ _ _ hl h => el_set hl h) h
  exact ⟨s, hv, h1, h2, h3, h4⟩

set_option maxRecDepth 100000 in
theorem el_em {n : Nat} {xs : List Value} {y : DataW H × List MemPlace} (hl : xs.length = 3) (h : DataW.trod enc Tryz.prog w base spare held n 178 xs = some y) : ∃ t, xs = EmM.cs t ∧ EmM.ok w w.heap.size t := by
  match xs, hl with
  | [c0, c1, c2], _ =>
    obtain ⟨_, _, h0⟩ := field_at Tryz.underlying178 h 0 rfl rfl rfl (by kernel_rfl) rfl
    obtain ⟨_, _, h1⟩ := field_at Tryz.underlying178 h 1 rfl rfl rfl (by kernel_rfl) rfl
    obtain ⟨_, _, h2⟩ := field_at Tryz.underlying178 h 2 rfl rfl rfl (by kernel_rfl) rfl
    obtain ⟨a, rfl, ha⟩ := open_u8c Tryz.underlying5 h0
    obtain ⟨b, rfl, hb⟩ := open_i64c Tryz.underlying3 h1
    obtain ⟨c, rfl, hc⟩ := open_tokc h2
    exact ⟨⟨a, b, c⟩, rfl, ha, hb, hc⟩
theorem open_emc {n : Nat} {v : Value} {y : DataW H × List MemPlace} (h : DataW.trod enc Tryz.prog w base spare held n 172 [v] = some y) : ∃ s : Sl EmM, v = s.v ∧ emsOk w w.heap.size s := by
  obtain ⟨s, hv, h1, h2, h3, h4⟩ := open_sl EmM.cs (EmM.ok w w.heap.size) (q := 3) (by omega) Tryz.underlying172 (by kernel_rfl) (fun _ => rfl) (fun _ _ _ hl h => el_em hl h) h
  exact ⟨s, hv, h1, h2, h3, h4⟩

set_option maxRecDepth 100000 in
theorem el_ru {n : Nat} {xs : List Value} {y : DataW H × List MemPlace} (hl : xs.length = 7) (h : DataW.trod enc Tryz.prog w base spare held n 174 xs = some y) : ∃ t, xs = RuM.cs t ∧ RuM.ok w w.heap.size t := by
  match xs, hl with
  | [c0, c1, c2, c3, c4, c5, c6], _ =>
    obtain ⟨_, _, h0⟩ := field_at Tryz.underlying174 h 0 rfl rfl rfl (by kernel_rfl) rfl
    obtain ⟨_, _, h1⟩ := field_at Tryz.underlying174 h 1 rfl rfl rfl (by kernel_rfl) rfl
    obtain ⟨_, _, h2⟩ := field_at Tryz.underlying174 h 2 rfl rfl rfl (by kernel_rfl) rfl
    obtain ⟨_, _, h3⟩ := field_at Tryz.underlying174 h 3 rfl rfl rfl (by kernel_rfl) rfl
    obtain ⟨_, _, h4⟩ := field_at Tryz.underlying174 h 4 rfl rfl rfl (by kernel_rfl) rfl
    obtain ⟨_, _, h5⟩ := field_at Tryz.underlying174 h 5 rfl rfl rfl (by kernel_rfl) rfl
    obtain ⟨_, _, h6⟩ := field_at Tryz.underlying174 h 6 rfl rfl rfl (by kernel_rfl) rfl
    obtain ⟨a, rfl, ha⟩ := open_i64c Tryz.underlying3 h0
    obtain ⟨b, rfl, hb⟩ := open_i64c Tryz.underlying3 h1
    obtain ⟨c, rfl, hc⟩ := open_i64c Tryz.underlying3 h2
    obtain ⟨d, rfl, hd⟩ := open_i64c Tryz.underlying3 h3
    obtain ⟨g, rfl, hg⟩ := open_tokc h4
    obtain ⟨s, rfl, hs⟩ := open_setc h5
    obtain ⟨e, rfl, he⟩ := open_emc h6
    exact ⟨⟨a, b, c, d, g, s, e⟩, rfl, ⟨ha, hb, hc, hd⟩, hg, hs, he⟩
theorem open_ruc {n : Nat} {v : Value} {y : DataW H × List MemPlace} (h : DataW.trod enc Tryz.prog w base spare held n 22 [v] = some y) : ∃ s : Sl RuM, v = s.v ∧ rusOk w w.heap.size s := by
  obtain ⟨s, hv, h1, h2, h3, h4⟩ := open_sl RuM.cs (RuM.ok w w.heap.size) (q := 7) (by omega) Tryz.underlying22 (by kernel_rfl) (fun _ => rfl) (fun _ _ _ hl h => el_ru hl h) h
  exact ⟨s, hv, h1, h2, h3, h4⟩

set_option maxRecDepth 100000 in
/-- a rule that comes in -/
theorem open_rule {r : Reach} {b0 : Nat} {v : Value} {d : DataW H} {p : List MemPlace} (hv : Value.okWide Tryz.prog w r b0 174 v) (h : DataW.Trod enc Tryz.prog w base spare held 174 v d p) :
    ∃ s : RuM, v = s.v ∧ RuM.ok w w.heap.size s := by
  obtain ⟨cs, rfl, hsz⟩ := okWide_struct Tryz.underlying174 hv
  obtain ⟨fuel, hf⟩ := h
  obtain ⟨l⟩ := cs
  have h7 : Tryz.prog.cellsOf 174 = 7 := by kernel_rfl
  have hl : l.length = 7 := hsz.trans h7
  obtain ⟨s, e, hs⟩ := el_ru (by simpa [Value.cells] using hl) hf
  refine ⟨s, ?_, hs⟩
  have e2 : l = RuM.cs s := by simpa [Value.cells] using e
  rw [e2]
  rfl

set_option maxRecDepth 100000 in
/-- a contract that comes in -/
theorem open_table {r : Reach} {b0 : Nat} {v : Value} {d : DataW H} {p : List MemPlace} (hv : Value.okWide Tryz.prog w r b0 24 v) (h : DataW.Trod enc Tryz.prog w base spare held 24 v d p) :
    ∃ (st vs : Int) (s : Sl RuM), v = tabV st vs s ∧ I64 st ∧ I64 vs ∧ rusOk w w.heap.size s := by
  obtain ⟨v0, v1, v2, y0, y1, y2, m, rfl, _, _, h0, h1, h2⟩ := open_agg3 Tryz.underlying24 (by kernel_rfl) (by kernel_rfl) hv h
  obtain ⟨a, rfl, ha⟩ := open_i64c Tryz.underlying3 h0
  obtain ⟨b, rfl, hb⟩ := open_i64c Tryz.underlying3 h1
  obtain ⟨c, rfl, hc⟩ := open_ruc h2
  exact ⟨a, b, c, rfl, ha, hb, hc⟩
end
end Go.Proofs.YtnkjdijbfnmnhaaGreat

/-
  Which contracts may be, and which rule is taken: plain mathematics.
-/
namespace Go.Proofs.YtnkjdijbfnmnhaaGreat
open Go.RowKit

/-- from a least one to a most one -/
def inB (n a b : Int) : Bool := decide (a ≤ n) && decide (n ≤ b)
theorem inB_true {n a b : Int} : inB n a b = true ↔ a ≤ n ∧ n ≤ b := by simp [inB]
theorem inB_false {n a b : Int} : inB n a b = false ↔ n < a ∨ b < n := by
  rw [← Bool.not_eq_true, inB_true]; omega

/-- the first place that is asked for -/
def idxO (p : Nat → Bool) (n : Nat) : Option Nat := (List.range n).find? p
def idxI (p : Nat → Bool) (n : Nat) : Int := match idxO p n with | some k => (k : Int) | none => -1
theorem idx_hit {p : Nat → Bool} {n k : Nat} (hk : k < n) (h : p k = true) (hb : ∀ j, j < k → p j = false) : idxO p n = some k := by
  unfold idxO
  rw [List.find?_range_eq_some]
  exact ⟨h, by simpa using hk, fun j hj => by simp [hb j hj]⟩
theorem idx_none {p : Nat → Bool} {n : Nat} (hb : ∀ j, j < n → p j = false) : idxO p n = none := by
  unfold idxO
  rw [List.find?_eq_none]
  intro x hx
  simp [hb x (by simpa using hx)]
theorem idx_some {p : Nat → Bool} {n k : Nat} (h : idxO p n = some k) : k < n ∧ p k = true ∧ ∀ j, j < k → p j = false := by
  unfold idxO at h
  rw [List.find?_range_eq_some] at h
  refine ⟨by simpa using h.2.1, h.1, fun j hj => by simpa using h.2.2 j hj⟩
theorem idx_not {p : Nat → Bool} {n : Nat} (h : idxO p n = none) : ∀ j, j < n → p j = false := by
  unfold idxO at h
  rw [List.find?_eq_none] at h
  intro j hj
  simpa using h j (by simpa using hj)
theorem idxI_hit {p : Nat → Bool} {n k : Nat} (hk : k < n) (h : p k = true) (hb : ∀ j, j < k → p j = false) : idxI p n = k := by unfold idxI; rw [idx_hit hk h hb]
theorem idxI_none {p : Nat → Bool} {n : Nat} (hb : ∀ j, j < n → p j = false) : idxI p n = -1 := by unfold idxI; rw [idx_none hb]
/-- is there one? -/
def anyB (p : Nat → Bool) (n : Nat) : Bool := (idxO p n).isSome
theorem anyB_idx (p : Nat → Bool) (n : Nat) : decide (0 ≤ idxI p n) = anyB p n := by
  unfold anyB idxI
  cases h : idxO p n with
  | none => rfl
  | some k => simp
theorem anyB_true {p : Nat → Bool} {n : Nat} : anyB p n = true ↔ ∃ j, j < n ∧ p j = true := by
  unfold anyB
  cases h : idxO p n with
  | none =>
    have := idx_not h
    constructor
    · intro h; cases h
    · rintro ⟨j, hj, hp⟩; rw [this j hj] at hp; cases hp
  | some k =>
    have := idx_some h
    exact ⟨fun _ => ⟨k, this.1, this.2.1⟩, fun _ => rfl⟩
theorem anyB_false {p : Nat → Bool} {n : Nat} : anyB p n = false ↔ ∀ j, j < n → p j = false := by
  rw [← Bool.not_eq_true, anyB_true]
  constructor
  · intro h j hj
    cases hp : p j with
    | false => rfl
    | true => exact absurd ⟨j, hj, hp⟩ h
  · rintro h ⟨j, hj, hp⟩
    rw [h j hj] at hp
    cases hp
theorem anyB_congr {p q : Nat → Bool} {n : Nat} (h : ∀ j, j < n → p j = q j) : anyB p n = anyB q n := by
  rw [Bool.eq_iff_iff, anyB_true, anyB_true]
  exact ⟨fun ⟨j, hj, hp⟩ => ⟨j, hj, (h j hj) ▸ hp⟩, fun ⟨j, hj, hp⟩ => ⟨j, hj, (h j hj).symm ▸ hp⟩⟩

/-- the least number that the next variable may have -/
def leastB (l : List SetM) : Nat → Int
  | 0 => 0
  | k + 1 => match l[k]? with | some s => s.var + 1 | none => 0
/-- what is wrong with a Set -/
def setX (vs : Int) (l : List SetM) (k : Nat) : Bool := match l[k]? with | some s => !(inB s.var (leastB l k) (vs - 1)) || !(mayB s.val.l vs) | none => true
/-- what is wrong with an Emit -/
def emX (vs : Int) (l : List EmM) (k : Nat) : Bool := match l[k]? with | some e => decide (16 ≤ e.tg) || (!(inB e.ac 0 31) || !(mayB e.arg.l vs)) | none => true
def setsB (vs : Int) (l : List SetM) : Bool := decide (l.length ≤ 8) && !(anyB (setX vs l) l.length)
def emsB (vs : Int) (l : List EmM) : Bool := decide (l.length ≤ 4) && !(anyB (emX vs l) l.length)
def guB (vs : Int) (l : List (Int × Int)) : Bool := decide (l.length = 0) || mayB l vs
def ruB (st vs : Int) (r : RuM) : Bool := inB r.fr 0 (st - 1) && (inB r.tt 0 (st - 1) && (inB r.ac 0 31 && (inB r.pa 0 7 && (guB vs r.gu.l && (setsB vs r.se.l && emsB vs r.em.l)))))
def ruX (st vs : Int) (l : List RuM) (k : Nat) : Bool := match l[k]? with | some r => !(ruB st vs r) | none => true
def rusB (st vs : Int) (l : List RuM) : Bool := decide (l.length ≤ 32) && !(anyB (ruX st vs l) l.length)
def mayT (st vs : Int) (l : List RuM) : Bool := inB st 1 32 && (inB vs 0 8 && rusB st vs l)

/-- is a rule taken? -/
def isFor (sa ac pa : Int) (vars : List Int) (arg : Int) (r : RuM) : Bool := decide (r.fr = sa) && (decide (r.ac = ac) && (decide (r.pa = pa) && holdsB r.gu.l vars arg))
def takX (sa ac pa : Int) (vars : List Int) (arg : Int) (l : List RuM) (k : Nat) : Bool := match l[k]? with | some r => isFor sa ac pa vars arg r | none => false
def takI (sa ac pa : Int) (vars : List Int) (arg : Int) (l : List RuM) : Int := idxI (takX sa ac pa vars arg l) l.length
def fireB (st vs : Int) (l : List RuM) (vars : List Int) : Bool := decide ((vars.length : Int) = vs) && mayT st vs l
def findI (st vs : Int) (l : List RuM) (sa ac pa : Int) (vars : List Int) (arg : Int) : Int := if fireB st vs l vars then takI sa ac pa vars arg l else -1
end Go.Proofs.YtnkjdijbfnmnhaaGreat

/-
  What an action does: plain mathematics.
-/
namespace Go.Proofs.YtnkjdijbfnmnhaaGreat
open Go.RowKit

def setOne (vars : List Int) (arg : Int) (cur : List Int) (s : SetM) : Option (List Int) := if (evalR s.val.l vars arg).2 = 0 then some (cur.set s.var.toNat (evalR s.val.l vars arg).1) else none
/-- the variables behind the first j Sets -/
def setRun (l : List SetM) (vars : List Int) (arg : Int) : Nat → Option (List Int)
  | 0 => some vars
  | j + 1 => (setRun l vars arg j).bind fun cur => match l[j]? with | some s => setOne vars arg cur s | none => none
/-- the messages of the first j Emits -/
def emRun (l : List EmM) (vars : List Int) (arg : Int) : Nat → Option (List (Int × Int × Int))
  | 0 => some []
  | j + 1 => (emRun l vars arg j).bind fun cur => match l[j]? with | some e => if (evalR e.arg.l vars arg).2 = 0 then some (cur ++ [(e.tg, e.ac, (evalR e.arg.l vars arg).1)]) else none | none => none
def setAllR (l : List SetM) (vars : List Int) (arg : Int) : Option (List Int) := setRun l vars arg l.length
def emAllR (l : List EmM) (vars : List Int) (arg : Int) : Option (List (Int × Int × Int)) := emRun l vars arg l.length

theorem setRun_yes {l : List SetM} {vars : List Int} {arg : Int} {j : Nat} {cur : List Int} {s : SetM} {x : Int} (h : setRun l vars arg j = some cur) (hs : l[j]? = some s) (he : evalR s.val.l vars arg = (x, 0)) :
    setRun l vars arg (j + 1) = some (cur.set s.var.toNat x) := by
  unfold setRun
  rw [h]
  simp only [Option.bind_some, hs]
  unfold setOne
  rw [he]
  rfl
theorem setRun_step_none {l : List SetM} {vars : List Int} {arg : Int} {k n : Nat} (h : setRun l vars arg k = none) (hk : k ≤ n) : setRun l vars arg n = none := by
  induction n with
  | zero => obtain rfl : k = 0 := by omega
            exact h
  | succ n ih =>
    by_cases e : k = n + 1
    · rw [← e]; exact h
    · show (setRun l vars arg n).bind _ = none
      rw [ih (by omega)]
      rfl
theorem setRun_no {l : List SetM} {vars : List Int} {arg : Int} {j n : Nat} {cur : List Int} {s : SetM} {x e : Int} (h : setRun l vars arg j = some cur) (hs : l[j]? = some s) (he : evalR s.val.l vars arg = (x, e)) (h0 : e ≠ 0) (hn : j + 1 ≤ n) :
    setRun l vars arg n = none := by
  refine setRun_step_none (k := j + 1) ?_ hn
  unfold setRun
  rw [h]
  simp only [Option.bind_some, hs]
  unfold setOne
  rw [he, if_neg h0]
theorem setRun_len {l : List SetM} {vars : List Int} {arg : Int} : ∀ {j : Nat} {cur : List Int}, setRun l vars arg j = some cur → cur.length = vars.length := by
  intro j
  induction j with
  | zero => intro cur h; injection h with h; rw [h]
  | succ j ih =>
    intro cur h
    change (setRun l vars arg j).bind _ = some cur at h
    cases hp : setRun l vars arg j with
    | none => rw [hp] at h; cases h
    | some c =>
      rw [hp] at h
      simp only [Option.bind_some] at h
      cases hl : l[j]? with
      | none => rw [hl] at h; cases h
      | some s =>
        rw [hl] at h
        simp only [setOne] at h
        split at h
        · injection h with h
          rw [← h, List.length_set]
          exact ih hp
        · cases h
theorem emRun_yes {l : List EmM} {vars : List Int} {arg : Int} {j : Nat} {cur : List (Int × Int × Int)} {s : EmM} {x : Int} (h : emRun l vars arg j = some cur) (hs : l[j]? = some s) (he : evalR s.arg.l vars arg = (x, 0)) :
    emRun l vars arg (j + 1) = some (cur ++ [(s.tg, s.ac, x)]) := by
  unfold emRun
  rw [h]
  simp only [Option.bind_some, hs]
  rw [he]
  rfl
theorem emRun_step_none {l : List EmM} {vars : List Int} {arg : Int} {k n : Nat} (h : emRun l vars arg k = none) (hk : k ≤ n) : emRun l vars arg n = none := by
  induction n with
  | zero => obtain rfl : k = 0 := by omega
            exact h
  | succ n ih =>
    by_cases e : k = n + 1
    · rw [← e]; exact h
    · show (emRun l vars arg n).bind _ = none
      rw [ih (by omega)]
      rfl
theorem emRun_no {l : List EmM} {vars : List Int} {arg : Int} {j n : Nat} {cur : List (Int × Int × Int)} {s : EmM} {x e : Int} (h : emRun l vars arg j = some cur) (hs : l[j]? = some s) (he : evalR s.arg.l vars arg = (x, e)) (h0 : e ≠ 0) (hn : j + 1 ≤ n) :
    emRun l vars arg n = none := by
  refine emRun_step_none (k := j + 1) ?_ hn
  unfold emRun
  rw [h]
  simp only [Option.bind_some, hs]
  rw [he, if_neg h0]
theorem emRun_len {l : List EmM} {vars : List Int} {arg : Int} : ∀ {j : Nat} {cur : List (Int × Int × Int)}, emRun l vars arg j = some cur → cur.length = j := by
  intro j
  induction j with
  | zero => intro cur h; injection h with h; rw [← h]; rfl
  | succ j ih =>
    intro cur h
    change (emRun l vars arg j).bind _ = some cur at h
    cases hp : emRun l vars arg j with
    | none => rw [hp] at h; cases h
    | some c =>
      rw [hp] at h
      simp only [Option.bind_some] at h
      cases hl : l[j]? with
      | none => rw [hl] at h; cases h
      | some s =>
        rw [hl] at h
        simp only at h
        split at h
        · injection h with h
          rw [← h, List.length_append, ih hp]
          rfl
        · cases h

/-- what comes of a rule's Sets and Emits -/
def fireOut (tt : Int) : Option (List Int) → Option (List (Int × Int × Int)) → Int × List Int × List (Int × Int × Int) × Int
  | some a, some c => (tt, a, c, 0)
  | _, _ => (0, [], [], 18)
theorem fireOut_yes (tt : Int) (a : List Int) (c : List (Int × Int × Int)) : fireOut tt (some a) (some c) = (tt, a, c, 0) := rfl
theorem fireOut_no1 (tt : Int) (c : Option (List (Int × Int × Int))) : fireOut tt none c = (0, [], [], 18) := rfl
theorem fireOut_no2 (tt : Int) (a : Option (List Int)) : fireOut tt a none = (0, [], [], 18) := by cases a <;> rfl
/-- what an action does: the state, the variables, the messages, the error's number -/
def fireR (st vs : Int) (l : List RuM) (sa ac pa : Int) (vars : List Int) (arg : Int) : Int × List Int × List (Int × Int × Int) × Int :=
  if fireB st vs l vars then
    match idxO (takX sa ac pa vars arg l) l.length with
    | none => (0, [], [], 13)
    | some k => match l[k]? with
      | none => (0, [], [], 13)
      | some r => fireOut r.tt (setAllR r.se.l vars arg) (emAllR r.em.l vars arg)
  else (0, [], [], 10)

/-- what is known of a rule of a contract that may be -/
theorem mayT_rule {st vs : Int} {l : List RuM} {k : Nat} {r : RuM} (h : mayT st vs l = true) (hr : l[k]? = some r) : ruB st vs r = true := by
  unfold mayT rusB at h
  simp only [Bool.and_eq_true, decide_eq_true_eq, Bool.not_eq_true'] at h
  have := anyB_false.1 h.2.2.2 k (List.getElem?_eq_some_iff.1 hr).1
  unfold ruX at this
  rw [hr] at this
  simpa using this
theorem mayT_num {st vs : Int} {l : List RuM} (h : mayT st vs l = true) : (1 ≤ st ∧ st ≤ 32) ∧ (0 ≤ vs ∧ vs ≤ 8) ∧ l.length ≤ 32 := by
  unfold mayT rusB at h
  simp only [Bool.and_eq_true, decide_eq_true_eq] at h
  exact ⟨inB_true.1 h.1, inB_true.1 h.2.1, h.2.2.1⟩
theorem ruB_parts {st vs : Int} {r : RuM} (h : ruB st vs r = true) : (0 ≤ r.fr ∧ r.fr ≤ st - 1) ∧ (0 ≤ r.tt ∧ r.tt ≤ st - 1) ∧ (0 ≤ r.ac ∧ r.ac ≤ 31) ∧ (0 ≤ r.pa ∧ r.pa ≤ 7) ∧ guB vs r.gu.l = true ∧ setsB vs r.se.l = true ∧ emsB vs r.em.l = true := by
  unfold ruB at h
  simp only [Bool.and_eq_true] at h
  exact ⟨inB_true.1 h.1, inB_true.1 h.2.1, inB_true.1 h.2.2.1, inB_true.1 h.2.2.2.1, h.2.2.2.2.1, h.2.2.2.2.2.1, h.2.2.2.2.2.2⟩
theorem setsB_len {vs : Int} {l : List SetM} (h : setsB vs l = true) : l.length ≤ 8 := by
  unfold setsB at h
  simp only [Bool.and_eq_true, decide_eq_true_eq] at h
  exact h.1
theorem emsB_len {vs : Int} {l : List EmM} (h : emsB vs l = true) : l.length ≤ 4 := by
  unfold emsB at h
  simp only [Bool.and_eq_true, decide_eq_true_eq] at h
  exact h.1
theorem setsB_at {vs : Int} {l : List SetM} {k : Nat} {s : SetM} (h : setsB vs l = true) (hs : l[k]? = some s) : (leastB l k ≤ s.var ∧ s.var ≤ vs - 1) ∧ mayB s.val.l vs = true := by
  unfold setsB at h
  simp only [Bool.and_eq_true, Bool.not_eq_true'] at h
  have h2 := anyB_false.1 h.2 k (List.getElem?_eq_some_iff.1 hs).1
  unfold setX at h2
  rw [hs] at h2
  simp only [Bool.or_eq_false_iff, Bool.not_eq_false'] at h2
  exact ⟨inB_true.1 h2.1, h2.2⟩
theorem emsB_at {vs : Int} {l : List EmM} {k : Nat} {s : EmM} (h : emsB vs l = true) (hs : l[k]? = some s) : s.tg < 16 ∧ (0 ≤ s.ac ∧ s.ac ≤ 31) ∧ mayB s.arg.l vs = true := by
  unfold emsB at h
  simp only [Bool.and_eq_true, Bool.not_eq_true'] at h
  have h2 := anyB_false.1 h.2 k (List.getElem?_eq_some_iff.1 hs).1
  unfold emX at h2
  rw [hs] at h2
  simp only [Bool.or_eq_false_iff, Bool.not_eq_false', decide_eq_false_iff_not] at h2
  exact ⟨by omega, inB_true.1 h2.2.1, h2.2.2⟩
theorem setsB_var : ∀ {vs : Int} {l : List SetM} {k : Nat} {s : SetM}, setsB vs l = true → l[k]? = some s → 0 ≤ s.var ∧ s.var < vs := by
  intro vs l k
  induction k with
  | zero =>
    intro s h hs
    have := (setsB_at h hs).1
    have e : leastB l 0 = 0 := rfl
    omega
  | succ k ih =>
    intro s h hs
    have := (setsB_at h hs).1
    have hk : k < l.length := by have := (List.getElem?_eq_some_iff.1 hs).1; omega
    have hp := ih (s := l[k]) h (List.getElem?_eq_getElem hk)
    have e : leastB l (k + 1) = l[k].var + 1 := by
      show (match l[k]? with | some s => s.var + 1 | none => 0) = _
      rw [List.getElem?_eq_getElem hk]
    omega
end Go.Proofs.YtnkjdijbfnmnhaaGreat

/-
  The bytes of contracts: plain mathematics.
-/
namespace Go.Proofs.YtnkjdijbfnmnhaaGreat
open Go.RowKit

def natB (n : Int) : List UInt8 := numB n.toNat
def numsB (l : List Int) : List UInt8 := l.flatMap natB
def tokB (t : Int × Int) : List UInt8 := natB t.1 ++ intB t.2
def fmlB (l : List (Int × Int)) : List UInt8 := natB l.length ++ l.flatMap tokB
def setBy (s : SetM) : List UInt8 := natB s.var ++ fmlB s.val.l
def emBy (e : EmM) : List UInt8 := natB e.tg ++ (natB e.ac ++ fmlB e.arg.l)
def setsBy (l : List SetM) : List UInt8 := natB l.length ++ l.flatMap setBy
def emsBy (l : List EmM) : List UInt8 := natB l.length ++ l.flatMap emBy
def ruBy (r : RuM) : List UInt8 := natB r.fr ++ (natB r.ac ++ (natB r.pa ++ (natB r.tt ++ (fmlB r.gu.l ++ (setsBy r.se.l ++ emsBy r.em.l)))))
def tabBy (st vs : Int) (l : List RuM) : List UInt8 := natB st ++ (natB vs ++ (natB l.length ++ l.flatMap ruBy))

theorem natB_len (n : Int) (h : n ≤ 9223372036854775807) : (natB n).length ≤ 10 := numB_length _ (by omega)
theorem intB_len (n : Int) (h : I64 n) : (intB n).length ≤ 10 := by
  unfold I64 at h
  exact numB_length _ (foldN_lt n h.1 h.2)
theorem flat_le {α : Type} {f : α → List UInt8} {q : Nat} : ∀ (l : List α), (∀ x ∈ l, (f x).length ≤ q) → (l.flatMap f).length ≤ q * l.length := by
  intro l
  induction l with
  | nil => intro _; simp
  | cons x l ih =>
    intro h
    have h1 := h x (by simp)
    have h2 := ih fun y hy => h y (by simp [hy])
    rw [List.flatMap_cons, List.length_append, List.length_cons, Nat.mul_succ]
    omega
theorem tokB_len (t : Int × Int) (h : TokIn t) : (tokB t).length ≤ 20 := by
  unfold tokB
  rw [List.length_append]
  have h1 := natB_len t.1 (by have := h.2.1; omega)
  have h2 := intB_len t.2 h.2.2
  omega
theorem fmlB_len (l : List (Int × Int)) (h : ∀ t ∈ l, TokIn t) (h1 : l.length ≤ 24) : (fmlB l).length ≤ 490 := by
  unfold fmlB
  rw [List.length_append]
  have h2 := natB_len l.length (by omega)
  have h3 := flat_le l fun t ht => tokB_len t (h t ht)
  omega
/-- a list's part up to k, and one more -/
theorem take_snoc {α : Type} {l : List α} {k : Nat} {x : α} (h : l[k]? = some x) : l.take (k + 1) = l.take k ++ [x] := by
  obtain ⟨hk, hx⟩ := List.getElem?_eq_some_iff.1 h
  rw [List.take_succ_eq_append_getElem hk, hx]
theorem flat_snoc {α : Type} {f : α → List UInt8} {l : List α} {k : Nat} {x : α} (h : l[k]? = some x) : (l.take (k + 1)).flatMap f = (l.take k).flatMap f ++ f x := by
  rw [take_snoc h, List.flatMap_append]
  simp
theorem flat_take_le {α : Type} {f : α → List UInt8} {q : Nat} (l : List α) (h : ∀ x ∈ l, (f x).length ≤ q) (k : Nat) : ((l.take k).flatMap f).length ≤ q * l.length := by
  have h1 := flat_le (l.take k) fun x hx => h x (List.mem_of_mem_take hx)
  have h2 : (l.take k).length ≤ l.length := by rw [List.length_take]; omega
  exact Nat.le_trans h1 (Nat.mul_le_mul_left q h2)

/-- a formula of a contract that may be: its length -/
theorem mayB_len {l : List (Int × Int)} {vs : Int} (h : mayB l vs = true) : l.length ≤ 24 := (mayB_true h).1
theorem guB_len {l : List (Int × Int)} {vs : Int} (h : guB vs l = true) : l.length ≤ 24 := by
  unfold guB at h
  simp only [Bool.or_eq_true, decide_eq_true_eq] at h
  rcases h with h | h
  · omega
  · exact mayB_len h
theorem setBy_len {w : World} {B : Nat} {s : SetM} (hs : SetM.ok w B s) (h : s.val.l.length ≤ 24) : (setBy s).length ≤ 500 := by
  unfold setBy
  rw [List.length_append]
  have h1 := natB_len s.var hs.1.2
  have h2 := fmlB_len s.val.l hs.2.2.2.2 h
  omega
theorem emBy_len {w : World} {B : Nat} {e : EmM} (hs : EmM.ok w B e) (h : e.arg.l.length ≤ 24) : (emBy e).length ≤ 510 := by
  unfold emBy
  rw [List.length_append, List.length_append]
  have h1 := natB_len e.tg (by have := hs.1.2; omega)
  have h3 := natB_len e.ac hs.2.1.2
  have h2 := fmlB_len e.arg.l hs.2.2.2.2.2 h
  omega
/-- what bounds a rule's bytes -/
def RuS (r : RuM) : Prop := r.gu.l.length ≤ 24 ∧ (r.se.l.length ≤ 8 ∧ ∀ s ∈ r.se.l, s.val.l.length ≤ 24) ∧ (r.em.l.length ≤ 4 ∧ ∀ e ∈ r.em.l, e.arg.l.length ≤ 24)
theorem ruS_of {st vs : Int} {r : RuM} (h : ruB st vs r = true) : RuS r := by
  obtain ⟨-, -, -, -, hg, hs, he⟩ := ruB_parts h
  refine ⟨guB_len hg, ⟨setsB_len hs, fun s hm => ?_⟩, ⟨emsB_len he, fun e hm => ?_⟩⟩
  · obtain ⟨k, hk, rfl⟩ := List.getElem_of_mem hm
    exact mayB_len (setsB_at hs (List.getElem?_eq_getElem hk)).2
  · obtain ⟨k, hk, rfl⟩ := List.getElem_of_mem hm
    exact mayB_len (emsB_at he (List.getElem?_eq_getElem hk)).2.2
theorem setsBy_len {w : World} {B : Nat} {s : Sl SetM} (hs : setsOk w B s) (h : s.l.length ≤ 8 ∧ ∀ x ∈ s.l, x.val.l.length ≤ 24) : (setsBy s.l).length ≤ 4010 := by
  unfold setsBy
  rw [List.length_append]
  have h1 := natB_len s.l.length (by omega)
  have h2 := flat_le (f := setBy) s.l fun x hx => setBy_len (hs.2.2.2 x hx) (h.2 x hx)
  omega
theorem emsBy_len {w : World} {B : Nat} {s : Sl EmM} (hs : emsOk w B s) (h : s.l.length ≤ 4 ∧ ∀ x ∈ s.l, x.arg.l.length ≤ 24) : (emsBy s.l).length ≤ 2050 := by
  unfold emsBy
  rw [List.length_append]
  have h1 := natB_len s.l.length (by omega)
  have h2 := flat_le (f := emBy) s.l fun x hx => emBy_len (hs.2.2.2 x hx) (h.2 x hx)
  omega
theorem ruBy_len {w : World} {B : Nat} {r : RuM} (hs : RuM.ok w B r) (h : RuS r) : (ruBy r).length ≤ 7000 := by
  unfold ruBy
  simp only [List.length_append]
  obtain ⟨⟨i1, i2, i3, i4⟩, h1, h2, h3⟩ := hs
  have a1 := natB_len r.fr i1.2
  have a2 := natB_len r.ac i2.2
  have a3 := natB_len r.pa i3.2
  have a4 := natB_len r.tt i4.2
  have a5 := fmlB_len r.gu.l h1.2.2.2 h.1
  have a6 := setsBy_len h2 h.2.1
  have a7 := emsBy_len h3 h.2.2
  omega
end Go.Proofs.YtnkjdijbfnmnhaaGreat
