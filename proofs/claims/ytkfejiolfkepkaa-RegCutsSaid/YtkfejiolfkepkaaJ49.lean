/-
  Texts of this claim put together: Open6, Law06.
-/
import Derived.Test.YtkfejiolfkepkaaJ23
import Derived.Test.YtkfejiolfkepkaaJ30
import Derived.Test.YtkfejiolfkepkaaJ33
import Derived.Test.YtkfejiolfkepkaaJ39
import Derived.Test.YtkfejiolfkepkaaJ48
/-
  How registers, replies come in.
-/
namespace Go.Proofs.Ytkfejiolfkepkaa
open Go.ChangeShapes Go.WideShapes Go.ChangeAt Go.RowKit Go.Joins Go.Deep

section
variable {H : Type} {enc : TypeId × Value → H} {P : Program} {w : World} {base : Nat} {spare : Nat → Bool} {held : Bool}
theorem field_many {e : TypeId} {fs : Array Field} {xs : List Value} {n : Nat} {y : DataW H × List MemPlace} (he : P.underlying e = some (.struct fs)) (h : DataW.trod enc P w base spare held n e xs = some y)
    (j : Nat) {f : Field} (hj : fs[j]? = some f) {o q : Nat} {ty : TypeId} {cs : List Value} (ht : f.type = ty) (ho : f.offset = o) (hc : P.cellsOf ty = q) (hx : (xs.drop o).take q = cs) :
    ∃ k z, DataW.trod enc P w base spare held k ty cs = some z := by
  obtain ⟨ys, k, _, _, _, hlen, hf⟩ := DataW.trod_struct he h
  have h1 := hf j f hj
  rw [ht, ho, hc, hx] at h1
  have hjl : j < ys.length := by rw [hlen]; exact (Array.getElem?_eq_some_iff.1 hj).1
  exact ⟨k, ys[j], h1.trans (List.getElem?_eq_getElem hjl)⟩
end

section
variable {H : Type} {enc : TypeId × Value → H} {w : World} {base : Nat} {spare : Nat → Bool} {held : Bool}

def RepM.cs (r : RepM) : List Value := [.int .i64 r.er, .int .u64 r.inc, .int .i64 r.st, r.va.v]

set_option maxRecDepth 100000 in
theorem el_rep {n : Nat} {xs : List Value} {y : DataW H × List MemPlace} (hl : xs.length = 4) (h : DataW.trod enc Try.prog w base spare held n 43 xs = some y) : ∃ t, xs = RepM.cs t ∧ RepM.ok w w.heap.size t := by
  match xs, hl with
  | [c0, c1, c2, c3], _ =>
    obtain ⟨_, _, h0⟩ := field_at Try.underlying43 h 0 rfl rfl rfl (by kernel_rfl) rfl
    obtain ⟨_, _, h1⟩ := field_at Try.underlying43 h 1 rfl rfl rfl (by kernel_rfl) rfl
    obtain ⟨_, _, h2⟩ := field_at Try.underlying43 h 2 rfl rfl rfl (by kernel_rfl) rfl
    obtain ⟨_, _, h3⟩ := field_at Try.underlying43 h 3 rfl rfl rfl (by kernel_rfl) rfl
    obtain ⟨a, rfl, ha⟩ := open_i64c Try.underlying32 h0
    obtain ⟨b, rfl, hb⟩ := open_u64c Try.underlying23 h1
    obtain ⟨c, rfl, hc⟩ := open_i64c Try.underlying3 h2
    obtain ⟨d, rfl, hd⟩ := open_intc h3
    exact ⟨⟨a, b, c, d⟩, rfl, ⟨ha, hb, hc⟩, hd⟩

set_option maxRecDepth 100000 in
theorem el_done {n : Nat} {xs : List Value} {y : DataW H × List MemPlace} (hl : xs.length = 6) (h : DataW.trod enc Try.prog w base spare held n 47 xs = some y) : ∃ t, xs = DoneM.cs t ∧ DoneM.ok w w.heap.size t := by
  match xs, hl with
  | [c0, c1, c2, c3, c4, c5], _ =>
    obtain ⟨_, _, h0⟩ := field_at Try.underlying47 h 0 rfl rfl rfl (by kernel_rfl) rfl
    obtain ⟨_, _, h1⟩ := field_at Try.underlying47 h 1 rfl rfl rfl (by kernel_rfl) rfl
    obtain ⟨_, _, h2⟩ := field_many (cs := [c2, c3, c4, c5]) (q := 4) Try.underlying47 h 2 rfl rfl rfl (by kernel_rfl) rfl
    obtain ⟨a, rfl, ha⟩ := open_u8c Try.underlying5 h0
    obtain ⟨b, rfl, hb⟩ := open_u64c Try.underlying23 h1
    obtain ⟨c, hc, hco⟩ := el_rep rfl h2
    obtain ⟨er, inc, st, va⟩ := c
    simp only [RepM.cs, List.cons.injEq, and_true] at hc
    obtain ⟨rfl, rfl, rfl, rfl⟩ := hc
    exact ⟨⟨a, b, er, inc, st, va⟩, rfl, ⟨ha, hb, hco.1⟩, hco.2⟩

theorem open_donec {n : Nat} {v : Value} {y : DataW H × List MemPlace} (h : DataW.trod enc Try.prog w base spare held n 25 [v] = some y) : ∃ s : Sl DoneM, v = s.v ∧ dnsOk w w.heap.size s := by
  obtain ⟨s, hv, h1, h2, h3, h4⟩ := open_sl DoneM.cs (DoneM.ok w w.heap.size) (q := 6) (by omega) Try.underlying25 (by kernel_rfl) (fun _ => rfl) (fun _ _ _ hl h => el_done hl h) h
  exact ⟨s, hv, h1, h2, h3, h4⟩

set_option maxRecDepth 100000 in
theorem el_reg {n : Nat} {xs : List Value} {y : DataW H × List MemPlace} (hl : xs.length = 8) (h : DataW.trod enc Try.prog w base spare held n 29 xs = some y) : ∃ t, xs = RegM.cs t ∧ RegM.ok w w.heap.size t := by
  match xs, hl with
  | [c0, c1, c2, c3, c4, c5, c6, c7], _ =>
    obtain ⟨_, _, h0⟩ := field_at Try.underlying29 h 0 rfl rfl rfl (by kernel_rfl) rfl
    obtain ⟨_, _, h1⟩ := field_at Try.underlying29 h 1 rfl rfl rfl (by kernel_rfl) rfl
    obtain ⟨_, _, h2⟩ := field_at Try.underlying29 h 2 rfl rfl rfl (by kernel_rfl) rfl
    obtain ⟨_, _, h3⟩ := field_at Try.underlying29 h 3 rfl rfl rfl (by kernel_rfl) rfl
    obtain ⟨_, _, h4⟩ := field_at Try.underlying29 h 4 rfl rfl rfl (by kernel_rfl) rfl
    obtain ⟨_, _, h5⟩ := field_at Try.underlying29 h 5 rfl rfl rfl (by kernel_rfl) rfl
    obtain ⟨_, _, h6⟩ := field_at Try.underlying29 h 6 rfl rfl rfl (by kernel_rfl) rfl
    obtain ⟨_, _, h7⟩ := field_at Try.underlying29 h 7 rfl rfl rfl (by kernel_rfl) rfl
    obtain ⟨a, rfl, ha⟩ := open_u8c Try.underlying5 h0
    obtain ⟨b, rfl, hb⟩ := open_u64c Try.underlying23 h1
    obtain ⟨c, rfl, hc⟩ := open_i64c Try.underlying3 h2
    obtain ⟨d, rfl, hd⟩ := open_intc h3
    obtain ⟨e, rfl, he⟩ := open_donec h4
    obtain ⟨f, rfl, hf⟩ := open_celc h5
    obtain ⟨g, rfl, hg⟩ := open_u64c Try.underlying23 h6
    obtain ⟨i, rfl, hi⟩ := open_mrkc h7
    exact ⟨⟨a, b, c, d, e, f, g, i⟩, rfl, ⟨ha, hb, hc, hg⟩, hd, he, hf, hi⟩

set_option maxRecDepth 100000 in
/-- a register that comes in -/
theorem open_reg {r : Reach} {b0 : Nat} {v : Value} {d : DataW H} {p : List MemPlace} (hv : Value.okWide Try.prog w r b0 29 v) (h : DataW.Trod enc Try.prog w base spare held 29 v d p) :
    ∃ s : RegM, v = s.v ∧ RegM.ok w w.heap.size s := by
  obtain ⟨cs, rfl, hsz⟩ := okWide_struct Try.underlying29 hv
  obtain ⟨fuel, hf⟩ := h
  obtain ⟨l⟩ := cs
  have h8 : Try.prog.cellsOf 29 = 8 := by kernel_rfl
  have hl : l.length = 8 := hsz.trans h8
  obtain ⟨s, e, hs⟩ := el_reg (by simpa [Value.cells] using hl) hf
  refine ⟨s, ?_, hs⟩
  have e2 : l = RegM.cs s := by simpa [Value.cells] using e
  rw [e2]
  rfl

set_option maxRecDepth 100000 in
/-- a reply that comes in -/
theorem open_rep {r : Reach} {b0 : Nat} {v : Value} {d : DataW H} {p : List MemPlace} (hv : Value.okWide Try.prog w r b0 43 v) (h : DataW.Trod enc Try.prog w base spare held 43 v d p) :
    ∃ s : RepM, v = s.v ∧ RepM.ok w w.heap.size s := by
  obtain ⟨cs, rfl, hsz⟩ := okWide_struct Try.underlying43 hv
  obtain ⟨fuel, hf⟩ := h
  obtain ⟨l⟩ := cs
  have h8 : Try.prog.cellsOf 43 = 4 := by kernel_rfl
  have hl : l.length = 4 := hsz.trans h8
  obtain ⟨s, e, hs⟩ := el_rep (by simpa [Value.cells] using hl) hf
  refine ⟨s, ?_, hs⟩
  have e2 : l = RepM.cs s := by simpa [Value.cells] using e
  rw [e2]
  rfl
end
end Go.Proofs.Ytkfejiolfkepkaa

/-
  What the laws of layer 6 have in common: the reference's May; how many bytes a register has; what was put is got back.
-/
namespace Go.Proofs.Ytkfejiolfkepkaa
open Go.RowKit

theorem reg_signs {w : World} {B : Nat} {r : RegM} (h : RegM.ok w B r) : (∀ m ∈ r.p.ma, 0 ≤ m.1) ∧ 0 ≤ r.p.ki := ⟨fun m hm => (h.2.2.2.2.2.2.2 m hm).1.1, h.1.1.1⟩
theorem refMay6_any (r : RegM) (B : Nat) (w : World) (hr : RegM.ok w B r) (hB : B ≤ w.heap.size) : Calls Try.prog 9 #[r.v] w fun e w' => e = .returned (.bool (mayG r.p)) ∧ Below w.heap.size w w' := by
  rw [← refMay_eq (reg_signs hr).1 (reg_signs hr).2]
  exact refMayR_any r B w hr hB fun u hu hBu => refLists_any r B u hu hBu

theorem regB_len {w : World} {B : Nat} {r : RegM} (hr : RegM.ok w B r) (hm : mayG r.p = true) : 0 < (regB r.p).length ∧ (regB r.p).length ≤ 10000 := by
  have hk := hr.1.1
  unfold U8 at hk
  have h0 : 0 < (natB r.p.ki).length := by
    unfold natB
    exact numB_pos _
  have h1 := natB_len r.p.ki (by show r.ki ≤ _; omega)
  unfold regB
  rw [List.length_append]
  by_cases hk0 : r.p.ki = 0
  · rw [if_pos hk0]
    simp
    omega
  · rw [if_neg hk0]
    obtain ⟨hinc, ⟨hst, hva⟩, ⟨hdl, hdc⟩, ⟨hol, hoc⟩, hml⟩ := stn_parts (may_stn hm hk0).1
    obtain ⟨⟨_, hu2, _, hu4⟩, hov, hod, hoo, hom⟩ := hr
    have e1 := natU_len r.p.inc hu2
    have e2 := natB_len r.p.st (by omega)
    have e3 := varB_len r.p.va hov.2.2.2 (by omega)
    have e4 := natB_len r.p.dn.length (by omega)
    have e5 : (r.p.dn.flatMap donB).length ≤ 600 * r.p.dn.length := flat_le (f := donB) r.p.dn fun z hz => by
      obtain ⟨d, hd, rfl⟩ := List.mem_map.1 hz
      exact don_len (hod.2.2.2 d hd) (hdc _ hz).2
    have e6 := natB_len r.p.ou.length (by omega)
    have e7 := flat_le (f := celB) r.p.ou fun z hz => cel_len (hoo.2.2.2 z hz) (hoc z hz)
    have e8 := natU_len r.p.la hu4
    have e9 := natB_len r.p.ma.length (by omega)
    have e10 := flat_le (f := mrkB) r.p.ma fun z hz => mrk_len (hom.2.2.2 z hz)
    simp only [List.length_append]
    omega

theorem getS_cut {w : World} {B : Nat} {r : RegM} (hr : RegM.ok w B r) (hm : mayG r.p = true) {k : Nat} (hk : k < (regB r.p).length) : getS ((regB r.p).take k, 0) = (zeroP, ([], 2)) := by
  have h := regS_cuts (regOk_of hr hm) k hk
  unfold getS
  rw [h]
  rfl
theorem getS_put {w : World} {B : Nat} {r : RegM} (hr : RegM.ok w B r) (hm : mayG r.p = true) : getS (regB r.p, 0) = (r.p, ([], 0)) := by
  have hk := hr.1.1
  unfold U8 at hk
  by_cases h0 : r.p.ki = 0
  · have hz : r.p = zeroP := by
      unfold mayG at hm
      rw [if_pos h0] at hm
      exact of_decide_eq_true hm
    have e : regS (regB r.p, 0) = (zeroP, ([], 0)) := by
      have hx : regB r.p = natB r.p.ki ++ [] := by unfold regB; rw [if_pos h0]
      have h1 := natS_put (n := r.p.ki) (most := 255) [] hk.1 (by show r.ki ≤ _; omega) (by omega)
      rw [hx]
      unfold regS
      rw [h1]
      simp only
      rw [if_pos (by rw [h0]; rfl)]
    unfold getS
    rw [e]
    rw [hz]
    decide
  · have h1 := regS_put (regOk_of hr hm) h0 []
    rw [List.append_nil] at h1
    unfold getS
    rw [h1]
    simp [hm]
end Go.Proofs.Ytkfejiolfkepkaa
