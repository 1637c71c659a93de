/-
  Texts of this claim put together: PutG, PutG2.
-/
import Derived.Test.YtnkjdijbfnmnhaaGreatJ20
import Derived.Test.YtnkjdijbfnmnhaaGreatJ32
import Derived.IntWalk
/-
  Contracts of reg's putting functions: what is put stands behind bytes of one's own.
-/
namespace Go.Proofs.YtnkjdijbfnmnhaaGreat
open Go.RowKit

def uv (l : List Int) : List Value := l.map (Value.int .u64)
theorem uv_length (l : List Int) : (uv l).length = l.length := by simp [uv]
theorem sees_uv {w : World} (l : List Int) (cs : Array Value) (t : TypeId) (z : Nat) (hz : w.heap.size = z) (h : cs = (uv l).toArray) : Sees (w.alloc (.cells cs t)) (z + 1) (some ⟨z, 0, none⟩) (uv l) := by
  subst hz h
  exact sees_box w (uv l).toArray t (uv l) rfl

/-- variables' bytes; an entry's, a cell's, a mark's, a register's -/
def varB (l : List Int) : List UInt8 := natB l.length ++ l.flatMap intB
def donB (d : DoneP) : List UInt8 := natB d.1 ++ (natB d.2.1 ++ (natB d.2.2.1 ++ (natB d.2.2.2.1 ++ (natB d.2.2.2.2.1 ++ varB d.2.2.2.2.2))))
def celB (c : CelM) : List UInt8 := natB c.1 ++ (natB c.2.1 ++ (natB c.2.2.1 ++ intB c.2.2.2))
def mrkB (m : MrkM) : List UInt8 := natB m.1 ++ (natB m.2.1 ++ natB m.2.2)
def regB (r : RegP) : List UInt8 :=
  natB r.ki ++ (if r.ki = 0 then [] else natB r.inc ++ (natB r.st ++ (varB r.va ++ ((natB r.dn.length ++ r.dn.flatMap donB) ++ ((natB r.ou.length ++ r.ou.flatMap celB) ++ (natB r.la ++ (natB r.ma.length ++ r.ma.flatMap mrkB)))))))
theorem natU_len (n : Int) (h : U64 n) : (natB n).length ≤ 10 := by
  unfold U64 at h
  exact numB_length _ (by omega)
theorem varB_len (l : List Int) (h : ∀ x ∈ l, I64 x) (h1 : l.length ≤ 50) : (varB l).length ≤ 510 := by
  unfold varB
  rw [List.length_append]
  have h2 := natB_len l.length (by omega)
  have h3 := flat_le l fun t ht => intB_len t (h t ht)
  omega

set_option maxRecDepth 100000 in
theorem putNums6_any (l r : List UInt8) (ns : List Int) (base : Nat) (v : Value) (B : Nat) (A : Option Addr) (q c : Nat) (w : World) (hres : l ++ numsB ns = r) (hq : ns.length = q) (hq4 : q ≤ 4) (hn : ∀ x ∈ ns, U64 x) (hl : l.length ≤ 1000000)
    (hown : w.ownsRow base 5 1 v l.length (bv l)) (hbase : base ≤ w.heap.size) (hs : Sees w B A (uv ns)) (hB : B ≤ w.heap.size) (hne : ∀ g o, A = some ⟨g, o, none⟩ → v.ownBlock ≠ some g) :
    Calls Tryz.prog 190 #[v, .slice A q c] w (PutsOn base v r w) := by
  have HQ := hide_ hq
  have HN := hide_ hn
  have HO := hide_ hown
  have HS := hide_ hs
  have HNE := hide_ hne
  have HR := hide_ (show l ++ numsB (ns.take q) = r by rw [← hq, List.take_length]; exact hres)
  clear hq hn hown hs hne hres
  go_enter Tryz.func190, Tryz.ntmps190
  go_wp2
  go_loopw [0, 9] (fun b i wr => ∃ (k : Nat), k ≤ q ∧ i = .int .i64 k ∧ Hid (RowStep base v w b wr (l ++ numsB (ns.take k)))) (fun _ i _ => q - (intOf i).toNat)
  case atStart => exact ⟨0, Nat.zero_le _, rfl, hide_ (by simpa [numsB] using RowStep.refl HO.out)⟩
  case round =>
    obtain ⟨k, hk, rfl, HK⟩ := hrel
    have hzw : w.heap.size ≤ wr.heap.size := HK.out.grow.size
    by_cases hlt : k < q
    · obtain ⟨x, hx⟩ : ∃ x, ns[k]? = some x := ⟨_, List.getElem?_eq_getElem (by rw [HQ.out]; exact hlt)⟩
      have hx2 := HN.out x (List.mem_of_getElem? hx)
      obtain ⟨b, o, hAe, hb, hc⟩ := HS.out.flat (by rw [uv_length, HQ.out]; omega)
      have hcell : w.cell? ⟨b, o + k, none⟩ = some (.int .u64 x) := hc k _ (by simp [uv, hx])
      have hcell2 : wr.cell? ⟨b, o + k, none⟩ = some (.int .u64 x) := by
        rw [← hcell]
        exact World.cell?_of_block (a := ⟨b, o + k, none⟩) (HK.out.grow.block b (by omega) fun e => HNE.out b o hAe e.symm)
      have hbw : b < wr.heap.size := by omega
      subst hAe
      obtain ⟨y, rfl⟩ := Int.eq_ofNat_of_zero_le hx2.1
      have hy := hx2.2
      have HX := hide_ (show l ++ numsB (ns.take (k + 1)) = (l ++ numsB (ns.take k)) ++ numB y by
        unfold numsB
        rw [flat_snoc hx, List.append_assoc]
        rfl)
      have HLN := hide_ (show (l ++ numsB (ns.take k)).length ≤ 1000040 by
        have h1 := flat_take_le (f := natB) (q := 10) ns (fun z hz => natU_len z (HN.out z hz)) k
        rw [HQ.out] at h1
        rw [List.length_append]
        unfold numsB
        omega)
      have HNL := hide_ (numB_length y (by omega))
      have HY := hide_ (show y < 18446744073709551616 by omega)
      clear hx hx2 hc hcell hy
      obtain ⟨l2, hl2⟩ : ∃ l2, l ++ numsB (ns.take (k + 1)) = l2 := ⟨_, rfl⟩
      rw [hl2] at HX
      have HL2 := hide_ hl2
      clear hl2
      generalize l ++ numsB (ns.take k) = l1 at HX HLN HK
      go_wp2_with fail
      refine (PutNum_any [] (numB y) y wr.heap.size none 0 0 _ rfl rfl HY.out (Sees.empty _ _ _) (Nat.le_refl _) (by simp)).mono ?_
      rintro en w2 ⟨A2, c2, rfl, hown2, hb2⟩
      have HB2 := hide_ hb2
      have HO2 := hide_ hown2
      clear hb2 hown2
      go_wp2_with (at_builtin; refine wpList_append_row _ rfl _ _ 50 rfl base u8_info Tryz.underlying50 _ l1 (numB y) l2 HX.out.symm rfl (own_below HK.out.own HB2.out) w2.heap.size A2 (numB y).length c2 rfl rfl (Sees.own HO2.out) ⟨by have := HLN.out; omega, by have := HNL.out; omega⟩ (by have := HB2.out.size; omega) ?_; intro A3 c3 w3 hst; have HST := hide_ (HK.out.trans (RowStep.fresh HB2.out hst)); clear hst)
      go_roundw
      case rel => exact ⟨k + 1, by omega, by go_num, by rw [HL2.out]; assumption⟩
      case measure => simp [intOf]; omega
    · obtain rfl : k = q := by omega
      have HK2 := hide_ (HR.out ▸ HK.out)
      clear HK
      obtain ⟨A3, c3, hA3⟩ := own_slice HK2.out.own
      subst hA3
      go_wp2
      go_ret
      exact ⟨_, _, rfl, HK2.out⟩

/-- a call of putNums with a list that has just been made -/
theorem putNums6_at (l r : List UInt8) (ns : List Int) (base : Nat) (v : Value) (q z : Nat) (w u : World) (C : Nat) (hC : C ≤ u.heap.size) (hb : Below w.heap.size w u) (hse : Sees u C (some ⟨z, 0, none⟩) (uv ns)) (hz : w.heap.size ≤ z) (hres : l ++ numsB ns = r) (hq : ns.length = q) (hq4 : q ≤ 4) (hn : ∀ x ∈ ns, U64 x) (hl : l.length ≤ 1000000)
    (hown : w.ownsRow base 5 1 v l.length (bv l)) (hbase : base ≤ w.heap.size) :
    Calls Tryz.prog 190 #[v, .slice (some ⟨z, 0, none⟩) q q] u fun e w' => ∃ A c, e = .returned (.slice A r.length c) ∧ RowStep base v u (.slice A r.length c) w' r := by
  refine (putNums6_any l r ns base v C (some ⟨z, 0, none⟩) q q _ hres hq hq4 hn hl (own_below hown hb) (Nat.le_trans hbase hb.size) hse hC (fun g o e => ?_)).mono ?_
  · injection e with e
    injection e with e _
    subst e
    exact own_old hown hz
  · rintro e w' ⟨A, c, rfl, hs⟩
    exact ⟨A, c, rfl, hs⟩

theorem uB1 (a : Int) : numsB [a] = natB a := by simp [numsB]
theorem uB2 (a b : Int) : numsB [a, b] = natB a ++ natB b := by simp [numsB]
theorem uB3 (a b c : Int) : numsB [a, b, c] = natB a ++ (natB b ++ natB c) := by simp [numsB]
theorem uB4 (a b c d : Int) : numsB [a, b, c, d] = natB a ++ (natB b ++ (natB c ++ natB d)) := by simp [numsB]
theorem u64_of_nat (n : Nat) (h : n ≤ 1000000) : U64 (n : Int) := by unfold U64; omega
theorem u64_of_small {n : Int} (h0 : 0 ≤ n) (h : n ≤ 1000000) : U64 n := by unfold U64; omega

set_option maxRecDepth 100000 in
set_option maxHeartbeats 1600000 in
theorem putState_any (l r : List UInt8) (st : Int) (s : IntS) (n : Nat) (hnn : s.l.length = n) (base : Nat) (v : Value) (B : Nat) (w : World) (hres : l ++ (natB st ++ varB s.l) = r) (hst : 0 ≤ st ∧ st ≤ 31) (hl : l.length ≤ 900000) (hn : n ≤ 50) (hs : intsOk w B s) (hB : B ≤ base)
    (hown : w.ownsRow base 5 1 v l.length (bv l)) (hbase : base ≤ w.heap.size) :
    Calls Tryz.prog 191 #[v, .int .i64 st, .slice s.A n s.c] w (PutsOn base v r w) := by
  obtain ⟨A, c, f⟩ := s
  simp only at hnn
  have HS := hide_ hs.2.2.1
  have HT := hide_ hs.2.2.2
  have HN := hide_ hnn
  have HO := hide_ hown
  obtain ⟨l1, hl1⟩ : ∃ l1, l ++ (natB st ++ natB n) = l1 := ⟨_, rfl⟩
  have HR := hide_ (show l1 ++ (f.take n).flatMap intB = r by
    rw [← hnn, List.take_length, ← hl1, ← hres]
    unfold varB
    simp only [hnn, List.append_assoc])
  have HL1 := hide_ (show l ++ numsB [st, (n : Int)] = l1 by rw [uB2]; exact hl1)
  have HLE := hide_ (show l1.length ≤ 900020 by rw [← hl1, List.length_append, List.length_append]; have := natB_len st (by omega); have := natB_len n (by omega); omega)
  have HUU := hide_ (show ∀ x ∈ [st, (n : Int)], U64 x from fun x hx => by
    simp at hx
    rcases hx with rfl | rfl
    · exact u64_of_small hst.1 (by omega)
    · exact u64_of_nat n (by omega))
  have hs1 : 0 ≤ st := hst.1
  have hs2 : st ≤ 31 := hst.2
  have HB0 := hide_ ((Below.refl w.heap.size w).alloc (Nat.le_refl _) (.cells #[.int .u64 st, .int .u64 n] 25))
  have HSE0 := hide_ (sees_uv (w := w) [st, (n : Int)] #[.int .u64 st, .int .u64 n] 25 _ rfl rfl)
  clear hs hnn hown hres hl1 hst
  go_enter Tryz.func191, Tryz.ntmps191
  go_wp2_with fail
  refine (putNums6_at l l1 [st, (n : Int)] base v 2 _ w _ _ (by simp) HB0.out HSE0.out (Nat.le_refl _) HL1.out rfl (by omega) HUU.out (by omega) HO.out hbase).mono ?_
  rintro en w1 ⟨A1, c1, rfl, hst1⟩
  have HST := hide_ (RowStep.fresh HB0.out hst1)
  clear hst1 HL1
  go_wp2
  go_loopw [0, 19] (fun b i wr => ∃ (k : Nat), k ≤ n ∧ i = .int .i64 k ∧ Hid (RowStep base v w b wr (l1 ++ (f.take k).flatMap intB))) (fun _ i _ => n - (intOf i).toNat)
  case atStart => exact ⟨0, Nat.zero_le _, rfl, hide_ (by simpa using HST.out)⟩
  case round =>
    obtain ⟨k, hk, rfl, HK⟩ := hrel
    have hzw : w.heap.size ≤ wr.heap.size := HK.out.grow.size
    have hbw : Below B w wr := HK.out.below HO.out hB (by omega)
    by_cases hlt : k < n
    · obtain ⟨x, hx⟩ : ∃ x, f[k]? = some x := ⟨_, List.getElem?_eq_getElem (by rw [HN.out]; exact hlt)⟩
      obtain ⟨tb, ot, hAe, hab, h0⟩ := (HS.out.below hbw).i64 hx
      have hwz : tb < wr.heap.size := by omega
      subst hAe
      have HI := hide_ (HT.out x (List.mem_of_getElem? hx))
      have HX := hide_ (show l1 ++ (f.take (k + 1)).flatMap intB = (l1 ++ (f.take k).flatMap intB) ++ intB x by
        rw [flat_snoc hx]
        simp only [List.append_assoc])
      have HLN := hide_ (show (l1 ++ (f.take k).flatMap intB).length ≤ 901000 by
        have h1 := flat_take_le (f := intB) (q := 10) f (fun z hz => intB_len z (HT.out z hz)) k
        have h2 := HLE.out
        rw [HN.out] at h1
        rw [List.length_append]
        omega)
      have HXL := hide_ (intB_len x HI.out)
      obtain ⟨l2, hl2⟩ : ∃ l2, l1 ++ (f.take (k + 1)).flatMap intB = l2 := ⟨_, rfl⟩
      rw [hl2] at HX
      have HL2 := hide_ hl2
      clear hl2 hx hbw
      generalize l1 ++ (f.take k).flatMap intB = la at HX HLN HK
      go_wp2_with fail
      refine (PutInt_any [] (intB x) x wr.heap.size none 0 0 _ rfl rfl HI.out.1 HI.out.2 (Sees.empty _ _ _) (Nat.le_refl _) (by simp)).mono ?_
      rintro en w3 ⟨A3, c3, rfl, hown3, hb3⟩
      have HB3 := hide_ hb3
      have HO3 := hide_ hown3
      clear hb3 hown3
      go_wp2_with (at_builtin; refine wpList_append_row _ rfl _ _ 50 rfl base u8_info Tryz.underlying50 _ la (intB x) l2 HX.out.symm rfl (own_below HK.out.own HB3.out) w3.heap.size A3 (intB x).length c3 rfl rfl (Sees.own HO3.out) ⟨by have := HLN.out; omega, by have := HXL.out; omega⟩ (by have := HB3.out.size; omega) ?_; intro A4 c4 w4 hst4; have HST4 := hide_ (HK.out.trans (RowStep.fresh HB3.out hst4)); clear hst4)
      go_roundw
      case rel => exact ⟨k + 1, by omega, by go_num, hide_ (by rw [HL2.out]; exact HST4.out)⟩
      case measure => simp [intOf]; omega
    · obtain rfl : k = n := by omega
      have HK2 := hide_ (HR.out ▸ HK.out)
      clear HK
      obtain ⟨A3, c3, hA3⟩ := own_slice HK2.out.own
      subst hA3
      go_wp2
      go_ret
      exact ⟨_, _, rfl, HK2.out⟩
end Go.Proofs.YtnkjdijbfnmnhaaGreat

/-
  Contracts of reg's putDone, putOut, putMarks.
-/
namespace Go.Proofs.YtnkjdijbfnmnhaaGreat
open Go.RowKit

theorem don_len {w : World} {B : Nat} {d : DoneM} (h : DoneM.ok w B d) (hc : (0 ≤ d.er ∧ d.er ≤ 99) ∧ (0 ≤ d.st ∧ d.st ≤ 31) ∧ d.va.l.length ≤ 8) : (donB d.p).length ≤ 600 := by
  unfold donB DoneM.p
  simp only [List.length_append]
  have a1 := natB_len d.cl (by have := h.1.1.2; omega)
  have a2 := natU_len d.sq h.1.2.1
  have a3 := natB_len d.er (by omega)
  have a4 := natU_len d.inc h.1.2.2.2.1
  have a5 := natB_len d.st (by omega)
  have a6 := varB_len d.va.l h.2.2.2.2 (by omega)
  omega
theorem cel_len {c : CelM} (h : celIn c) (hc : 0 ≤ c.2.2.1 ∧ c.2.2.1 ≤ 31) : (celB c).length ≤ 50 := by
  unfold celB
  simp only [List.length_append]
  have a1 := natU_len c.1 h.1
  have a2 := natB_len c.2.1 (by have := h.2.1.2; omega)
  have a3 := natB_len c.2.2.1 (by omega)
  have a4 := intB_len c.2.2.2 h.2.2.2
  omega
theorem mrk_len {m : MrkM} (h : mrkIn m) : (mrkB m).length ≤ 40 := by
  unfold mrkB
  simp only [List.length_append]
  have a1 := natB_len m.1 (by have := h.1.2; omega)
  have a2 := natU_len m.2.1 h.2.1
  have a3 := natU_len m.2.2 h.2.2
  omega

set_option maxRecDepth 100000 in
set_option maxHeartbeats 1600000 in
theorem putDone_any (l r : List UInt8) (s : Sl (DoneM)) (n : Nat) (hnn : s.l.length = n) (base : Nat) (v : Value) (B : Nat) (w : World) (hres : l ++ (natB n ++ s.l.flatMap (fun d => donB d.p)) = r) (hl : l.length ≤ 800000) (hn : n ≤ 8) (hs : dnsOk w B s) (hc : ∀ d ∈ s.l, (0 ≤ d.er ∧ d.er ≤ 99) ∧ (0 ≤ d.st ∧ d.st ≤ 31) ∧ d.va.l.length ≤ 8) (hB : B ≤ base)
    (hown : w.ownsRow base 5 1 v l.length (bv l)) (hbase : base ≤ w.heap.size) :
    Calls Tryz.prog 192 #[v, .slice s.A n s.c] w (PutsOn base v r w) := by
  have HEL := hide_ (show ∀ x ∈ s.l, ((fun d => donB d.p) x).length ≤ 600 from fun z hz => don_len (hs.2.2.2 z hz) (hc z hz))
  obtain ⟨A, c, f⟩ := s
  simp only at hnn
  have HS := hide_ hs.2.2.1
  have HT := hide_ hs.2.2.2
  have HC := hide_ hc
  have HN := hide_ hnn
  have HO := hide_ hown
  obtain ⟨l1, hl1⟩ : ∃ l1, l ++ natB n = l1 := ⟨_, rfl⟩
  have HR := hide_ (show l1 ++ (f.take n).flatMap (fun d => donB d.p) = r by
    rw [← hnn, List.take_length, ← hl1, ← hres]
    simp only [List.append_assoc])
  have HL1 := hide_ (show l ++ numsB [(n : Int)] = l1 by rw [uB1]; exact hl1)
  have HLE := hide_ (show l1.length ≤ 800010 by rw [← hl1, List.length_append]; have := natB_len n (by omega); omega)
  have HUU := hide_ (show ∀ x ∈ [(n : Int)], U64 x from fun x hx => by
    simp at hx
    subst hx
    exact u64_of_nat n (by omega))
  have HB0 := hide_ ((Below.refl w.heap.size w).alloc (Nat.le_refl _) (.cells #[.int .u64 n] 25))
  have HSE0 := hide_ (sees_uv (w := w) [(n : Int)] #[.int .u64 n] 25 _ rfl rfl)
  clear hs hnn hown hres hl1 hc
  go_enter Tryz.func192, Tryz.ntmps192
  go_wp2_with fail
  refine (putNums6_at l l1 [(n : Int)] base v 1 _ w _ _ (by simp) HB0.out HSE0.out (Nat.le_refl _) HL1.out rfl (by omega) HUU.out (by omega) HO.out hbase).mono ?_
  rintro en w1 ⟨A1, c1, rfl, hst1⟩
  have HST := hide_ (RowStep.fresh HB0.out hst1)
  clear hst1 HL1
  go_wp2
  go_loopw [0, 15] (fun b i wr => ∃ (k : Nat), k ≤ n ∧ i = .int .i64 k ∧ Hid (RowStep base v w b wr (l1 ++ (f.take k).flatMap (fun d => donB d.p)))) (fun _ i _ => n - (intOf i).toNat)
  case atStart => exact ⟨0, Nat.zero_le _, rfl, hide_ (by simpa using HST.out)⟩
  case round =>
    obtain ⟨k, hk, rfl, HK⟩ := hrel
    have hzw : w.heap.size ≤ wr.heap.size := HK.out.grow.size
    have hbw : Below B w wr := HK.out.below HO.out hB (by omega)
    by_cases hlt : k < n
    · obtain ⟨x, hx⟩ : ∃ x, f[k]? = some x := ⟨_, List.getElem?_eq_getElem (by rw [HN.out]; exact hlt)⟩
      obtain ⟨tb, ot, hAe, hab, e0, e1, e2, e3, e4, e5⟩ := (HS.out.below hbw).done hx
      have hwz : tb < wr.heap.size := by omega
      subst hAe
      have hxo := HT.out x (List.mem_of_getElem? hx)
      have hxc := HC.out x (List.mem_of_getElem? hx)
      have HX := hide_ (show l1 ++ (f.take (k + 1)).flatMap (fun d => donB d.p) = (l1 ++ (f.take k).flatMap (fun d => donB d.p)) ++ (fun d => donB d.p) x by
        rw [flat_snoc hx]
        simp only [List.append_assoc])
      have HLN := hide_ (show (l1 ++ (f.take k).flatMap (fun d => donB d.p)).length ≤ 810000 by
        have h1 := flat_take_le (f := (fun d => donB d.p)) (q := 600) f HEL.out k
        have h2 := HLE.out
        rw [HN.out] at h1
        rw [List.length_append]
        omega)
      have HXL := hide_ (HEL.out x (List.mem_of_getElem? hx))
      obtain ⟨cl, sq, er, inc, st, ⟨vA, vc, vl⟩⟩ := x
      simp only at hxo hxc e0 e1 e2 e3 e4 e5
      have hu1 : 0 ≤ cl := hxo.1.1.1
      have hu2 : cl ≤ 255 := hxo.1.1.2
      have hu3 : 0 ≤ er := hxc.1.1
      have hu4 : er ≤ 99 := hxc.1.2
      obtain ⟨l2, hl2⟩ : ∃ l2, l1 ++ (f.take (k + 1)).flatMap (fun d => donB d.p) = l2 := ⟨_, rfl⟩
      rw [hl2] at HX
      have HL2 := hide_ hl2
      have HBW := hide_ hbw
      clear hl2 hx hbw
      generalize l1 ++ (f.take k).flatMap (fun d => donB d.p) = la at HX HLN HK
      obtain ⟨lb, hlb⟩ : ∃ lb, la ++ (natB cl ++ (natB sq ++ (natB er ++ natB inc))) = lb := ⟨_, rfl⟩
      have HY := hide_ (show lb ++ (natB st ++ varB vl) = l2 by
        rw [HX.out, ← hlb]
        unfold donB DoneM.p
        simp only [List.append_assoc])
      have HLB := hide_ (show la ++ numsB [cl, sq, er, inc] = lb by rw [uB4]; exact hlb)
      have HBL := hide_ (show lb.length ≤ 811000 by
        have h1 := HLN.out
        have h2 := HXL.out
        have h3 := congrArg List.length HX.out
        have h4 := congrArg List.length HY.out
        simp only [List.length_append] at h3 h4
        omega)
      have HUL := hide_ (show ∀ x ∈ [cl, sq, er, inc], U64 x from by
        have hh := (show U64 cl ∧ U64 sq ∧ U64 er ∧ U64 inc from ⟨by unfold U64; have := hxo.1.1; unfold U8 at this; omega, hxo.1.2.1, u64_of_small hxc.1.1 (by omega), hxo.1.2.2.2.1⟩)
        intro x hx
        simp only [List.mem_cons, List.not_mem_nil, or_false] at hx
        rcases hx with rfl | rfl | rfl | rfl
        · exact hh.1
        · exact hh.2.1
        · exact hh.2.2.1
        · exact hh.2.2.2)
      have HU := hide_ (((Below.refl wr.heap.size wr).alloc (Nat.le_refl _) (.cells #[.int .u8 cl, .int .u64 sq, .int .i64 er, .int .u64 inc, .int .i64 st, .slice vA vl.length vc] 106)).alloc (by simp) (.cells #[.int .u64 cl, .int .u64 sq, .int .u64 er, .int .u64 inc] 25))
      have HSU := hide_ (sees_uv (w := wr.alloc (.cells #[.int .u8 cl, .int .u64 sq, .int .i64 er, .int .u64 inc, .int .i64 st, .slice vA vl.length vc] 106)) [cl, sq, er, inc] #[.int .u64 cl, .int .u64 sq, .int .u64 er, .int .u64 inc] 25 (wr.heap.size + 1) (by simp) rfl)
      have HX1 := hide_ ((BoxAt.new wr #[.int .u8 cl, .int .u64 sq, .int .i64 er, .int .u64 inc, .int .i64 st, .slice vA vl.length vc] 106).alloc (.cells #[.int .u64 cl, .int .u64 sq, .int .u64 er, .int .u64 inc] 25))
      have HVO := hide_ hxo.2
      have HVC := hide_ hxc.2
      clear hlb hxo hxc
      go_wp2_with fail
      refine (putNums6_at la lb [cl, sq, er, inc] base _ 4 _ wr _ _ (by simp) HU.out HSU.out (by omega) HLB.out rfl (by omega) HUL.out (by have := HLN.out; omega) HK.out.own (by omega)).mono ?_
      rintro en w2 ⟨A2, c2, rfl, hst2⟩
      have HST2 := hide_ (HK.out.trans (RowStep.fresh HU.out hst2))
      have HX2 := hide_ (HX1.out.step (by decide) (own_below HK.out.own HU.out) hst2)
      clear hst2
      have hz2 : wr.heap.size < w2.heap.size := HX2.out.lt
      have hcx := HX2.out.cell
      have HB2 := hide_ (show Below B w w2 from HST2.out.below HO.out hB (by omega))
      go_wp2_with fail
      refine (putState_any lb l2 st ⟨vA, vc, vl⟩ vl.length rfl base _ B _ HY.out HVC.out.1 (by have := HBL.out; omega) (by have := HVC.out.2; omega) (ints_stable.below HVO.out HB2.out) hB HST2.out.own (by omega)).mono ?_
      rintro en w3 ⟨A3, c3, rfl, hst3⟩
      have HST4 := hide_ (HST2.out.trans hst3)
      clear hst3 hcx
      go_wp2
      go_roundw
      case rel => exact ⟨k + 1, by omega, by go_num, hide_ (by rw [HL2.out]; exact HST4.out)⟩
      case measure => simp [intOf]; omega
    · obtain rfl : k = n := by omega
      have HK2 := hide_ (HR.out ▸ HK.out)
      clear HK
      obtain ⟨A3, c3, hA3⟩ := own_slice HK2.out.own
      subst hA3
      go_wp2
      go_ret
      exact ⟨_, _, rfl, HK2.out⟩

set_option maxRecDepth 100000 in
set_option maxHeartbeats 1600000 in
theorem putOut_any (l r : List UInt8) (s : Sl (CelM)) (n : Nat) (hnn : s.l.length = n) (base : Nat) (v : Value) (B : Nat) (w : World) (hres : l ++ (natB n ++ s.l.flatMap celB) = r) (hl : l.length ≤ 800000) (hn : n ≤ 8) (hs : celsOk w B s) (hc : ∀ d ∈ s.l, 0 ≤ d.2.2.1 ∧ d.2.2.1 ≤ 31) (hB : B ≤ base)
    (hown : w.ownsRow base 5 1 v l.length (bv l)) (hbase : base ≤ w.heap.size) :
    Calls Tryz.prog 193 #[v, .slice s.A n s.c] w (PutsOn base v r w) := by
  have HEL := hide_ (show ∀ x ∈ s.l, (celB x).length ≤ 50 from fun z hz => cel_len (hs.2.2.2 z hz) (hc z hz))
  obtain ⟨A, c, f⟩ := s
  simp only at hnn
  have HS := hide_ hs.2.2.1
  have HT := hide_ hs.2.2.2
  have HC := hide_ hc
  have HN := hide_ hnn
  have HO := hide_ hown
  obtain ⟨l1, hl1⟩ : ∃ l1, l ++ natB n = l1 := ⟨_, rfl⟩
  have HR := hide_ (show l1 ++ (f.take n).flatMap celB = r by
    rw [← hnn, List.take_length, ← hl1, ← hres]
    simp only [List.append_assoc])
  have HL1 := hide_ (show l ++ numsB [(n : Int)] = l1 by rw [uB1]; exact hl1)
  have HLE := hide_ (show l1.length ≤ 800010 by rw [← hl1, List.length_append]; have := natB_len n (by omega); omega)
  have HUU := hide_ (show ∀ x ∈ [(n : Int)], U64 x from fun x hx => by
    simp at hx
    subst hx
    exact u64_of_nat n (by omega))
  have HB0 := hide_ ((Below.refl w.heap.size w).alloc (Nat.le_refl _) (.cells #[.int .u64 n] 25))
  have HSE0 := hide_ (sees_uv (w := w) [(n : Int)] #[.int .u64 n] 25 _ rfl rfl)
  clear hs hnn hown hres hl1 hc
  go_enter Tryz.func193, Tryz.ntmps193
  go_wp2_with fail
  refine (putNums6_at l l1 [(n : Int)] base v 1 _ w _ _ (by simp) HB0.out HSE0.out (Nat.le_refl _) HL1.out rfl (by omega) HUU.out (by omega) HO.out hbase).mono ?_
  rintro en w1 ⟨A1, c1, rfl, hst1⟩
  have HST := hide_ (RowStep.fresh HB0.out hst1)
  clear hst1 HL1
  go_wp2
  go_loopw [0, 15] (fun b i wr => ∃ (k : Nat), k ≤ n ∧ i = .int .i64 k ∧ Hid (RowStep base v w b wr (l1 ++ (f.take k).flatMap celB))) (fun _ i _ => n - (intOf i).toNat)
  case atStart => exact ⟨0, Nat.zero_le _, rfl, hide_ (by simpa using HST.out)⟩
  case round =>
    obtain ⟨k, hk, rfl, HK⟩ := hrel
    have hzw : w.heap.size ≤ wr.heap.size := HK.out.grow.size
    have hbw : Below B w wr := HK.out.below HO.out hB (by omega)
    by_cases hlt : k < n
    · obtain ⟨x, hx⟩ : ∃ x, f[k]? = some x := ⟨_, List.getElem?_eq_getElem (by rw [HN.out]; exact hlt)⟩
      obtain ⟨tb, ot, hAe, hab, e0, e1, e2, e3⟩ := (HS.out.below hbw).cel hx
      have hwz : tb < wr.heap.size := by omega
      subst hAe
      have hxo := HT.out x (List.mem_of_getElem? hx)
      have hxc := HC.out x (List.mem_of_getElem? hx)
      have HX := hide_ (show l1 ++ (f.take (k + 1)).flatMap celB = (l1 ++ (f.take k).flatMap celB) ++ celB x by
        rw [flat_snoc hx]
        simp only [List.append_assoc])
      have HLN := hide_ (show (l1 ++ (f.take k).flatMap celB).length ≤ 810000 by
        have h1 := flat_take_le (f := celB) (q := 50) f HEL.out k
        have h2 := HLE.out
        rw [HN.out] at h1
        rw [List.length_append]
        omega)
      have HXL := hide_ (HEL.out x (List.mem_of_getElem? hx))
      obtain ⟨a, b', c', d⟩ := x
      simp only at hxo hxc e0 e1 e2 e3
      have hu1 : 0 ≤ b' := hxo.2.1.1
      have hu2 : b' ≤ 255 := hxo.2.1.2
      have hu3 : 0 ≤ c' := hxc.1
      have hu4 : c' ≤ 31 := hxc.2
      obtain ⟨l2, hl2⟩ : ∃ l2, l1 ++ (f.take (k + 1)).flatMap celB = l2 := ⟨_, rfl⟩
      rw [hl2] at HX
      have HL2 := hide_ hl2
      have HBW := hide_ hbw
      clear hl2 hx hbw
      generalize l1 ++ (f.take k).flatMap celB = la at HX HLN HK
      obtain ⟨lb, hlb⟩ : ∃ lb, la ++ (natB a ++ (natB b' ++ natB c')) = lb := ⟨_, rfl⟩
      have HY := hide_ (show lb ++ intB d = l2 by
        rw [HX.out, ← hlb]
        unfold celB
        simp only [List.append_assoc])
      have HLB := hide_ (show la ++ numsB [a, b', c'] = lb by rw [uB3]; exact hlb)
      have HBL := hide_ (show lb.length ≤ 811000 by
        have h1 := HLN.out
        have h2 := HXL.out
        have h3 := congrArg List.length HX.out
        have h4 := congrArg List.length HY.out
        simp only [List.length_append] at h3 h4
        omega)
      have HUL := hide_ (show ∀ x ∈ [a, b', c'], U64 x from by
        have hh := (show U64 a ∧ U64 b' ∧ U64 c' from ⟨hxo.1, by unfold U64; have := hxo.2.1; unfold U8 at this; omega, u64_of_small hxc.1 (by omega)⟩)
        intro x hx
        simp only [List.mem_cons, List.not_mem_nil, or_false] at hx
        rcases hx with rfl | rfl | rfl
        · exact hh.1
        · exact hh.2.1
        · exact hh.2.2)
      have HU := hide_ (((Below.refl wr.heap.size wr).alloc (Nat.le_refl _) (.cells #[.int .u64 a, .int .u8 b', .int .i64 c', .int .i64 d] 108)).alloc (by simp) (.cells #[.int .u64 a, .int .u64 b', .int .u64 c'] 25))
      have HSU := hide_ (sees_uv (w := wr.alloc (.cells #[.int .u64 a, .int .u8 b', .int .i64 c', .int .i64 d] 108)) [a, b', c'] #[.int .u64 a, .int .u64 b', .int .u64 c'] 25 (wr.heap.size + 1) (by simp) rfl)
      have HX1 := hide_ ((BoxAt.new wr #[.int .u64 a, .int .u8 b', .int .i64 c', .int .i64 d] 108).alloc (.cells #[.int .u64 a, .int .u64 b', .int .u64 c'] 25))
      have HVI := hide_ hxo.2.2.2
      clear hlb hxo hxc
      go_wp2_with fail
      refine (putNums6_at la lb [a, b', c'] base _ 3 _ wr _ _ (by simp) HU.out HSU.out (by omega) HLB.out rfl (by omega) HUL.out (by have := HLN.out; omega) HK.out.own (by omega)).mono ?_
      rintro en w2 ⟨A2, c2, rfl, hst2⟩
      have HST2 := hide_ (HK.out.trans (RowStep.fresh HU.out hst2))
      have HX2 := hide_ (HX1.out.step (by decide) (own_below HK.out.own HU.out) hst2)
      clear hst2
      have hz2 : wr.heap.size < w2.heap.size := HX2.out.lt
      have hcx := HX2.out.cell
      go_wp2_with fail
      refine (PutInt_any [] (intB d) d w2.heap.size none 0 0 _ rfl rfl HVI.out.1 HVI.out.2 (Sees.empty _ _ _) (Nat.le_refl _) (by simp)).mono ?_
      rintro en w3 ⟨A3, c3, rfl, hown3, hb3⟩
      have HB3 := hide_ hb3
      have HO3 := hide_ hown3
      have HDL := hide_ (intB_len d HVI.out)
      clear hb3 hown3 hcx
      go_wp2_with (at_builtin; refine wpList_append_row _ rfl _ _ 50 rfl base u8_info Tryz.underlying50 _ lb (intB d) l2 HY.out rfl (own_below HST2.out.own HB3.out) w3.heap.size A3 (intB d).length c3 rfl rfl (Sees.own HO3.out) ⟨by have := HBL.out; omega, by have := HDL.out; omega⟩ (by have := HB3.out.size; omega) ?_; intro A4 c4 w4 hst4; have HST4 := hide_ (HST2.out.trans (RowStep.fresh HB3.out hst4)); clear hst4)
      go_roundw
      case rel => exact ⟨k + 1, by omega, by go_num, hide_ (by rw [HL2.out]; exact HST4.out)⟩
      case measure => simp [intOf]; omega
    · obtain rfl : k = n := by omega
      have HK2 := hide_ (HR.out ▸ HK.out)
      clear HK
      obtain ⟨A3, c3, hA3⟩ := own_slice HK2.out.own
      subst hA3
      go_wp2
      go_ret
      exact ⟨_, _, rfl, HK2.out⟩

set_option maxRecDepth 100000 in
set_option maxHeartbeats 1600000 in
theorem putMarks_any (l r : List UInt8) (s : Sl (MrkM)) (n : Nat) (hnn : s.l.length = n) (base : Nat) (v : Value) (B : Nat) (w : World) (hres : l ++ (natB n ++ s.l.flatMap mrkB) = r) (hl : l.length ≤ 800000) (hn : n ≤ 16) (hs : mrksOk w B s) (hB : B ≤ base)
    (hown : w.ownsRow base 5 1 v l.length (bv l)) (hbase : base ≤ w.heap.size) :
    Calls Tryz.prog 194 #[v, .slice s.A n s.c] w (PutsOn base v r w) := by
  have HEL := hide_ (show ∀ x ∈ s.l, (mrkB x).length ≤ 40 from fun z hz => mrk_len (hs.2.2.2 z hz))
  obtain ⟨A, c, f⟩ := s
  simp only at hnn
  have HS := hide_ hs.2.2.1
  have HT := hide_ hs.2.2.2

  have HN := hide_ hnn
  have HO := hide_ hown
  obtain ⟨l1, hl1⟩ : ∃ l1, l ++ natB n = l1 := ⟨_, rfl⟩
  have HR := hide_ (show l1 ++ (f.take n).flatMap mrkB = r by
    rw [← hnn, List.take_length, ← hl1, ← hres]
    simp only [List.append_assoc])
  have HL1 := hide_ (show l ++ numsB [(n : Int)] = l1 by rw [uB1]; exact hl1)
  have HLE := hide_ (show l1.length ≤ 800010 by rw [← hl1, List.length_append]; have := natB_len n (by omega); omega)
  have HUU := hide_ (show ∀ x ∈ [(n : Int)], U64 x from fun x hx => by
    simp at hx
    subst hx
    exact u64_of_nat n (by omega))
  have HB0 := hide_ ((Below.refl w.heap.size w).alloc (Nat.le_refl _) (.cells #[.int .u64 n] 25))
  have HSE0 := hide_ (sees_uv (w := w) [(n : Int)] #[.int .u64 n] 25 _ rfl rfl)
  clear hs hnn hown hres hl1
  go_enter Tryz.func194, Tryz.ntmps194
  go_wp2_with fail
  refine (putNums6_at l l1 [(n : Int)] base v 1 _ w _ _ (by simp) HB0.out HSE0.out (Nat.le_refl _) HL1.out rfl (by omega) HUU.out (by omega) HO.out hbase).mono ?_
  rintro en w1 ⟨A1, c1, rfl, hst1⟩
  have HST := hide_ (RowStep.fresh HB0.out hst1)
  clear hst1 HL1
  go_wp2
  go_loopw [0, 15] (fun b i wr => ∃ (k : Nat), k ≤ n ∧ i = .int .i64 k ∧ Hid (RowStep base v w b wr (l1 ++ (f.take k).flatMap mrkB))) (fun _ i _ => n - (intOf i).toNat)
  case atStart => exact ⟨0, Nat.zero_le _, rfl, hide_ (by simpa using HST.out)⟩
  case round =>
    obtain ⟨k, hk, rfl, HK⟩ := hrel
    have hzw : w.heap.size ≤ wr.heap.size := HK.out.grow.size
    have hbw : Below B w wr := HK.out.below HO.out hB (by omega)
    by_cases hlt : k < n
    · obtain ⟨x, hx⟩ : ∃ x, f[k]? = some x := ⟨_, List.getElem?_eq_getElem (by rw [HN.out]; exact hlt)⟩
      obtain ⟨tb, ot, hAe, hab, e0, e1, e2⟩ := (HS.out.below hbw).mrk hx
      have hwz : tb < wr.heap.size := by omega
      subst hAe
      have hxo := HT.out x (List.mem_of_getElem? hx)

      have HX := hide_ (show l1 ++ (f.take (k + 1)).flatMap mrkB = (l1 ++ (f.take k).flatMap mrkB) ++ mrkB x by
        rw [flat_snoc hx]
        simp only [List.append_assoc])
      have HLN := hide_ (show (l1 ++ (f.take k).flatMap mrkB).length ≤ 810000 by
        have h1 := flat_take_le (f := mrkB) (q := 40) f HEL.out k
        have h2 := HLE.out
        rw [HN.out] at h1
        rw [List.length_append]
        omega)
      have HXL := hide_ (HEL.out x (List.mem_of_getElem? hx))
      obtain ⟨a, b', c'⟩ := x
      simp only at hxo e0 e1 e2
      have hu1 : 0 ≤ a := hxo.1.1
      have hu2 : a ≤ 255 := hxo.1.2
      obtain ⟨l2, hl2⟩ : ∃ l2, l1 ++ (f.take (k + 1)).flatMap mrkB = l2 := ⟨_, rfl⟩
      rw [hl2] at HX
      have HL2 := hide_ hl2
      have HBW := hide_ hbw
      clear hl2 hx hbw
      generalize l1 ++ (f.take k).flatMap mrkB = la at HX HLN HK
      obtain ⟨lb, hlb⟩ : ∃ lb, la ++ (natB a ++ (natB b' ++ natB c')) = lb := ⟨_, rfl⟩
      have HY := hide_ (show lb = l2 by
        rw [HX.out, ← hlb]
        unfold mrkB
        rfl)
      have HLB := hide_ (show la ++ numsB [a, b', c'] = lb by rw [uB3]; exact hlb)
      have HBL := hide_ (show lb.length ≤ 811000 by
        have h1 := HLN.out
        have h2 := HXL.out
        have h3 := congrArg List.length HX.out
        have h4 := congrArg List.length HY.out
        simp only [List.length_append] at h3 h4
        omega)
      have HUL := hide_ (show ∀ x ∈ [a, b', c'], U64 x from by
        have hh := (show U64 a ∧ U64 b' ∧ U64 c' from ⟨by unfold U64; have := hxo.1; unfold U8 at this; omega, hxo.2.1, hxo.2.2⟩)
        intro x hx
        simp only [List.mem_cons, List.not_mem_nil, or_false] at hx
        rcases hx with rfl | rfl | rfl
        · exact hh.1
        · exact hh.2.1
        · exact hh.2.2)
      have HU := hide_ (((Below.refl wr.heap.size wr).alloc (Nat.le_refl _) (.cells #[.int .u8 a, .int .u64 b', .int .u64 c'] 110)).alloc (by simp) (.cells #[.int .u64 a, .int .u64 b', .int .u64 c'] 25))
      have HSU := hide_ (sees_uv (w := wr.alloc (.cells #[.int .u8 a, .int .u64 b', .int .u64 c'] 110)) [a, b', c'] #[.int .u64 a, .int .u64 b', .int .u64 c'] 25 (wr.heap.size + 1) (by simp) rfl)
      have HX1 := hide_ ((BoxAt.new wr #[.int .u8 a, .int .u64 b', .int .u64 c'] 110).alloc (.cells #[.int .u64 a, .int .u64 b', .int .u64 c'] 25))
      clear hlb hxo
      go_wp2_with fail
      refine (putNums6_at la lb [a, b', c'] base _ 3 _ wr _ _ (by simp) HU.out HSU.out (by omega) HLB.out rfl (by omega) HUL.out (by have := HLN.out; omega) HK.out.own (by omega)).mono ?_
      rintro en w2 ⟨A2, c2, rfl, hst2⟩
      have HST2 := hide_ (HK.out.trans (RowStep.fresh HU.out hst2))
      have HX2 := hide_ (HX1.out.step (by decide) (own_below HK.out.own HU.out) hst2)
      clear hst2
      have hz2 : wr.heap.size < w2.heap.size := HX2.out.lt
      have hcx := HX2.out.cell
      have HST4 := hide_ (show RowStep base v w _ w2 l2 from HY.out ▸ HST2.out)
      clear hcx
      go_wp2
      go_roundw
      case rel => exact ⟨k + 1, by omega, by go_num, hide_ (by rw [HL2.out]; exact HY.out ▸ HST2.out)⟩
      case measure => simp [intOf]; omega
    · obtain rfl : k = n := by omega
      have HK2 := hide_ (HR.out ▸ HK.out)
      clear HK
      obtain ⟨A3, c3, hA3⟩ := own_slice HK2.out.own
      subst hA3
      go_wp2
      go_ret
      exact ⟨_, _, rfl, HK2.out⟩

end Go.Proofs.YtnkjdijbfnmnhaaGreat
