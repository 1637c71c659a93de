/-
  Texts of this claim put together: Mark.
-/
import Derived.Test.YtecbpmnolgkllaaJ04
import Derived.Test.YtecbpmnolgkllaaSum
import Derived.Deep.RegionHeld
/-
  Contracts of sum's and the document's marking functions: marked bytes, and whether bytes fit.
-/
namespace Go.Proofs.Ytecbpmnolgkllaa
open Go.RowKit

/-- marked bytes -/
def markB (l : List UInt8) : List UInt8 := l ++ le4 (crc l)
theorem markB_length (l : List UInt8) : (markB l).length = l.length + 4 := by simp [markB, le4]

theorem ofNat_mod (n : Nat) : ((UInt8.ofNat n).toNat : Int) = (n : Int) % 256 := by simp
theorem le4_snoc (l : List UInt8) (n k : Nat) (h : k < 4) : bv (l ++ (le4 n).take (k + 1)) = bv (l ++ (le4 n).take k) ++ [.int .u8 ((n : Int) / 2 ^ (8 * k) % 256)] := by
  have hc : k = 0 ∨ k = 1 ∨ k = 2 ∨ k = 3 := by omega
  rcases hc with rfl | rfl | rfl | rfl <;> simp [le4, bv]

set_option maxRecDepth 100000 in
theorem Mark_any (l r : List UInt8) (B : Nat) (A : Option Addr) (n c : Nat) (w : World) (hn : l.length = n) (hres : markB l = r) (hm : n ≤ 70368744177000) (hs : Sees w B A (bv l)) (hB : B ≤ w.heap.size) :
    Calls Try.prog 91 #[.slice A n c] w (Puts w r) := by
  subst hn hres
  obtain ⟨i0, hi, hz0, hz1, hz2⟩ := info_parts u8_info
  have hmk : ∀ u : World, (Instr.makeSlice 38 (.int .i64 (l.length : Int)) (.int .i64 ((l.length : Int) + 4))).run Try.prog u =
      .ok (.slice (some ⟨u.heap.size, 0, none⟩) l.length (l.length + 4)) (u.alloc (.cells (madeCells #[.int .u8 0] (l.length + 4)) 5)) := fun u => by
    have h := run_make (P := Try.prog) u 38 5 i0 (.int .u8 0) Try.underlying38 hi hz0 .i64 .i64 (l.length : Int) ((l.length : Int) + 4) (by omega) (by omega) (by rw [hz2]; omega) (by omega)
    have e1 : (l.length : Int).toNat = l.length := by omega
    have e2 : ((l.length : Int) + 4).toNat = l.length + 4 := by omega
    rw [e1, e2] at h
    simpa [hz1, Value.cells] using h
  have hcs : (madeCells #[Value.int .u8 0] (l.length + 4)).size = l.length + 4 := size_madeCells _ _
  obtain ⟨w1, hcp, hrow, hgr, hsz1⟩ := run_copy_start (P := Try.prog) (w.alloc (.cells (madeCells #[.int .u8 0] (l.length + 4)) 5)) 38 38 3 5 Try.underlying38 u8_one w.heap.size l.length (l.length + 4) B A l.length c
    (madeCells #[.int .u8 0] (l.length + 4)) 5 (heap_alloc_new w _) (bv l) (bv_length l) (Nat.le_refl _) (by omega) (bv_oneCell l) (hs.below ((Below.refl _ _).alloc hB _))
  have hb : Below w.heap.size w w1 := ((Below.refl _ _).alloc (Nat.le_refl _) _).grown hgr (by simp) (by intro k hk; injection hk; omega)
  have hown1 : w1.ownsRow w.heap.size 5 1 (.slice (some ⟨w.heap.size, 0, none⟩) l.length (l.length + 4)) l.length (bv l) := by
    refine ⟨by simp [bv_length], .inr ⟨w.heap.size, _, _, rfl, Nat.le_refl _, hrow, by omega, by unfold maxLen; omega, ?_, ?_⟩⟩
    · simp [bv_length, madeCells]
    · rw [Nat.mul_one, ← bv_length l]
      exact List.take_left
  clear hrow hcs hgr
  have HZ := hide_ hsz1
  clear hsz1
  go_enter Try.func91, Try.ntmps91
  go_wp2_with fail
  refine (Of_any l B A _ c w1 rfl (by unfold maxLen; omega) (hs.below (hb.mono hB)) (Nat.le_trans hB hb.size)).mono ?_
  rintro e w2 ⟨rfl, hb2⟩
  have hb02 : Below w.heap.size w w2 := hb.trans (hb2.mono hb.size)
  have hown2 := own_below hown1 hb2
  have hcr := crc_lt l
  go_wp2
  go_loopw [3, 17] (fun b i wr => ∃ k : Nat, k ≤ 4 ∧ i = .int .i64 k ∧ wr.ownsRow w.heap.size 5 1 b (l.length + k) (bv (l ++ (le4 (crc l)).take k)) ∧ Below w.heap.size w wr) (fun _ i _ => 4 - (intOf i).toNat)
  case atStart => exact ⟨0, by omega, rfl, by simpa using hown2, hb02⟩
  case round =>
    obtain ⟨k, hk, rfl, hown, hbr⟩ := hrel
    by_cases hlt : k < 4
    · go_wp2_with (at_builtin; refine wpList_append_byte (P := Try.prog) _ rfl (.tmp 20) (.tmp 26) 38 rfl w.heap.size 5 u8_info Try.underlying38 _ _ _ _ rfl hown rfl (by omega) hbr.size ?_; intro v1 w3 hown3 hb3)
      have e1 := le4_snoc l (crc l) k hlt
      go_roundw
      case rel => exact ⟨k + 1, by omega, by go_num, own_rw hown3 (by omega) e1.symm, hbr.trans hb3⟩
      case measure => simp [intOf]; omega
    · obtain rfl : k = 4 := by omega
      go_wp2
      go_ret
      obtain ⟨A', c', rfl⟩ := own_slice hown
      refine ⟨A', c', ?_, ?_, hbr⟩
      · rw [markB_length]
        rfl
      · rw [markB_length]
        exact hown


theorem Sees_le4 (w : World) (n : Nat) (vs : List Value) (hv : vs = bv (le4 n)) (fr : Nat × Nat) : Sees (w.alloc (.cells vs.toArray 5 fr)) (w.heap.size + 1) (some ⟨w.heap.size, 0, none⟩) (bv (le4 n)) := fun _ => by
  refine ⟨_, rfl, by simp, fun j u hu => ?_⟩
  have hg := heap_alloc_new w (.cells vs.toArray 5 fr)
  have hadd : (⟨w.heap.size, 0, none⟩ : Addr).add j = ⟨w.heap.size, j, none⟩ := by unfold Addr.add; split <;> simp_all
  rw [hadd, cell_of_row _ _ j _ _ _ hg, ← hu, hv]
  simp
theorem bv_le4 (n : Nat) (h : n < 4294967296) : [Value.int .u8 ((n : Int) % 256), .int .u8 ((n : Int) / 256 % 256), .int .u8 ((n : Int) / 65536 % 256), .int .u8 ((n : Int) / 16777216)] = bv (le4 n) := by
  have e : (n : Int) / 16777216 % 256 = (n : Int) / 16777216 := by omega
  simp [bv, le4, e]

theorem strOf_inj {l m : List UInt8} : strOf l = strOf m ↔ l = m := by
  unfold strOf
  constructor
  · intro h
    injection h with h
    simpa using congrArg Array.toList h
  · rintro rfl
    rfl

set_option maxRecDepth 100000 in
theorem Equal_any (l m : List UInt8) (b : Bool) (B B' : Nat) (A A' : Option Addr) (n c n' c' : Nat) (w : World) (hn : l.length = n) (hn' : m.length = n') (hb : decide (l = m) = b) (hs : Sees w B A (bv l)) (hs' : Sees w B' A' (bv m)) :
    Calls Try.prog 82 #[.slice A n c, .slice A' n' c'] w fun e w' => e = .returned (.bool b) ∧ w = w' := by
  have k1 := run_str (P := Try.prog) w 38 9 5 Try.underlying38 Try.underlying5 Try.underlying9 l B A n c hn hs
  have k2 := run_str (P := Try.prog) w 38 9 5 Try.underlying38 Try.underlying5 Try.underlying9 m B' A' n' c' hn' hs'
  by_cases h : l = m
  · subst h
    obtain rfl : b = true := by rw [← hb]; simp
    clear hb
    go_enter Try.func82, Try.ntmps82
    go_wp2
    go_ret
    exact ⟨rfl, rfl⟩
  · obtain rfl : b = false := by rw [← hb]; simp [h]
    clear hb
    go_enter Try.func82, Try.ntmps82
    go_wp2
    go_ret
    refine ⟨?_, rfl⟩
    show Ending.returned (.bool (l == m)) = _
    rw [beq_eq_false_iff_ne.2 h]

/-- marked bytes without the mark, or the error -/
def fitsL (l : List UInt8) : List UInt8 × Int :=
  if l.length < 4 then ([], 2) else if markB (l.take (l.length - 4)) = l then (l.take (l.length - 4), 0) else ([], 5)
theorem fitsL_short {l : List UInt8} (h : l.length < 4) : fitsL l = ([], 2) := by unfold fitsL; rw [if_pos h]
theorem fitsL_yes {l : List UInt8} (h : ¬ l.length < 4) (he : markB (l.take (l.length - 4)) = l) : fitsL l = (l.take (l.length - 4), 0) := by unfold fitsL; rw [if_neg h, if_pos he]
theorem fitsL_no {l : List UInt8} (h : ¬ l.length < 4) (he : markB (l.take (l.length - 4)) ≠ l) : fitsL l = ([], 5) := by unfold fitsL; rw [if_neg h, if_neg he]

/-- what a function leaves that answers bytes and an error -/
def Fitted (w : World) (r : List UInt8 × Int) (e : Ending) (w' : World) : Prop :=
  ∃ A n c, e = .returned (.tuple #[.slice A n c, .int .i64 r.2]) ∧ r.1.length = n ∧ Sees w' w'.heap.size A (bv r.1) ∧ Below w.heap.size w w'
theorem Fitted.mk {w w' : World} {r : List UInt8 × Int} {e : Ending} {m : List UInt8} {er : Int} (hr : r = (m, er)) (A : Option Addr) (n c : Nat) (he : e = .returned (.tuple #[.slice A n c, .int .i64 er])) (hn : m.length = n) (hs : Sees w' w'.heap.size A (bv m)) (hb : Below w.heap.size w w') : Fitted w r e w' := by
  subst hr
  exact ⟨A, n, c, he, hn, hs, hb⟩

set_option maxRecDepth 100000 in
theorem Fits_any (l : List UInt8) (A : Option Addr) (n c : Nat) (w : World) (hn : l.length = n) (hm : n ≤ 70368744177000) (hs : Sees w w.heap.size A (bv l)) (hc : n ≤ c) :
    Calls Try.prog 109 #[.slice A n c] w (Fitted w (fitsL l)) := by
  subst hn
  obtain ⟨r, hr⟩ : ∃ r, fitsL l = r := ⟨_, rfl⟩
  rw [hr]
  by_cases h4 : l.length < 4
  · rw [fitsL_short h4] at hr
    have HR := hide_ hr
    clear hr
    go_enter Try.func109, Try.ntmps109
    go_wp2
    go_ret2
    exact Fitted.mk HR.out.symm none 0 0 rfl rfl (Sees.empty _ _ _) (Below.refl _ _)
  · have h4' : (4 : Int) ≤ l.length := by omega
    obtain ⟨m, hmn⟩ : ∃ m, l.length - 4 = m := ⟨_, rfl⟩
    have ht : (l.take m).length = m := by simp; omega
    have hst := Sees.take hs m
    rw [← bv_take] at hst
    have e1 : (l.length : Int) - 4 = m := by omega
    by_cases he : markB (l.take m) = l
    · have hr2 := fitsL_yes h4 (by rw [hmn]; exact he)
      rw [hmn] at hr2
      rw [hr2] at hr
      have HR := hide_ hr
      have HE := hide_ he
      have HT := hide_ ht
      have HM := hide_ hmn
      clear hr he hr2 ht hmn
      go_enter Try.func109, Try.ntmps109
      go_wp2_with fail
      refine (Mark_any (l.take m) l w.heap.size A m c w HT.out HE.out (by omega) hst (Nat.le_refl _)).mono ?_
      rintro e w1 ⟨A1, c1, rfl, hown1, hb1⟩
      have hcap := own_cap hown1
      have hs1 := Sees.own hown1
      have hm1 : (m : Int) ≤ c1 := by omega
      go_wp2_with fail
      refine (Equal_any l l true _ _ A1 A _ c1 _ c w1 rfl rfl (by simp) hs1 (hs.below hb1)).mono ?_
      rintro e w2 ⟨rfl, rfl⟩
      have hst1 := Sees.take hs1 m
      rw [← bv_take] at hst1
      have hm2 : m ≤ c1 := by omega
      go_wp2
      go_ret2
      exact Fitted.mk HR.out.symm A1 m m rfl HT.out hst1 hb1
    · have hr2 := fitsL_no h4 (by rw [hmn]; exact he)
      rw [hr2] at hr
      obtain ⟨l2, hl2⟩ : ∃ l2, markB (l.take m) = l2 := ⟨_, rfl⟩
      rw [hl2] at he
      have HR := hide_ hr
      have HE := hide_ he
      have HL := hide_ hl2
      have HT := hide_ ht
      have HM := hide_ hmn
      clear hr he hr2 ht hmn hl2
      go_enter Try.func109, Try.ntmps109
      go_wp2_with fail
      refine (Mark_any (l.take m) l2 w.heap.size A m c w HT.out HL.out (by omega) hst (Nat.le_refl _)).mono ?_
      rintro e w1 ⟨A1, c1, rfl, hown1, hb1⟩
      go_wp2_with fail
      refine (Equal_any l2 l false _ _ A1 A _ c1 _ c w1 rfl rfl (decide_eq_false HE.out) (Sees.own hown1) (hs.below hb1)).mono ?_
      rintro e w2 ⟨rfl, rfl⟩
      go_wp2
      go_ret2
      exact Fitted.mk HR.out.symm none 0 0 rfl rfl (Sees.empty _ _ _) hb1

theorem Fits_to (l m : List UInt8) (er : Int) (A : Option Addr) (n c : Nat) (w : World) (hf : fitsL l = (m, er)) (hn : l.length = n) (hm : n ≤ 70368744177000) (hs : Sees w w.heap.size A (bv l)) (hc : n ≤ c) :
    Calls Try.prog 109 #[.slice A n c] w fun e w' => ∃ A n c, e = .returned (.tuple #[.slice A n c, .int .i64 er]) ∧ m.length = n ∧ Sees w' w'.heap.size A (bv m) ∧ Below w.heap.size w w' := by
  have h := Fits_any l A n c w hn hm hs hc
  rw [hf] at h
  exact h

theorem fitsL_mark (l : List UInt8) : fitsL (markB l) = (l, 0) := by
  have e : (markB l).take ((markB l).length - 4) = l := by
    rw [markB_length, Nat.add_sub_cancel]
    exact List.take_left
  have h := fitsL_yes (l := markB l) (by rw [markB_length]; omega) (by rw [e])
  rwa [e] at h
end Go.Proofs.Ytecbpmnolgkllaa
