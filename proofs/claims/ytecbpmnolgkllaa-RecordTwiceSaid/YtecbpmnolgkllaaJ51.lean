/-
  Texts of this claim put together: Law14.
-/
import Derived.Test.YtecbpmnolgkllaaJ50
import Derived.Test.YtecbpmnolgkllaaJ46
import Derived.Test.YtecbpmnolgkllaaJ47
/-
  The example of layer 14; the document's Folds; what the laws lean on.
-/
namespace Go.Proofs.Ytecbpmnolgkllaa
open Go.RowKit

def exR : RecM := { zeroRec with ki := 2, ke := 3 }
theorem exR_may : mayR exR.p = true := by decide
theorem exR_good (w : World) (B : Nat) : RecM.good w B exR := ⟨by simp [RecM.ok', BalIn, N64, N32, exR, zeroRec], zeroM_ok w B, zeroCf_ok w B⟩

set_option maxRecDepth 100000 in
set_option maxHeartbeats 3200000 in
theorem putEx_any (w : World) : Calls Try.prog 38 #[.agg #[.int .u8 2, .int .u8 3, .int .u64 0, .int .u8 0, .int .u32 0, .int .u64 0, .int .u8 0, .int .u32 0, .int .u8 0, .int .u64 0, .int .i64 0, .slice none 0 0, .slice none 0 0, .slice none 0 0, .int .u64 0, .slice none 0 0, .int .u64 0, .int .u32 0, .int .u64 0, .slice none 0 0, .slice none 0 0]] w fun e w' => ∃ A c, e = .returned (.tuple #[.slice A 2 c, .int .i64 0]) ∧ w'.ownsRow w.heap.size 5 1 (.slice A 2 c) 2 (bv [2, 3]) ∧ Below w.heap.size w w' := by
  have HM := hide_ (fun (u : World) => mayRec_any exR u.heap.size u (exR_good _ _) (Nat.le_refl _))
  rw [exR_may] at HM
  have HP1 := hide_ (fun (u : World) => PutNum_any [] [2] 2 u.heap.size none 0 0 u rfl (by rw [numB_small (by decide)]; rfl) (by omega) (Sees.empty _ _ _) (Nat.le_refl _) (by simp))
  have HP2 := hide_ (fun (A : Option Addr) (c : Nat) (u : World) (h : Sees u u.heap.size A (bv [2])) => PutNum_any [2] [2, 3] 3 u.heap.size A 1 c u rfl (by rw [numB_small (by decide)]; rfl) (by omega) h (Nat.le_refl _) (by simp))
  obtain ⟨V, hV⟩ : ∃ V : Value, .agg #[.int .u8 2, .int .u8 3, .int .u64 0, .int .u8 0, .int .u32 0, .int .u64 0, .int .u8 0, .int .u32 0, .int .u8 0, .int .u64 0, .int .i64 0, .slice none 0 0, .slice none 0 0, .slice none 0 0, .int .u64 0, .slice none 0 0, .int .u64 0, .int .u32 0, .int .u64 0, .slice none 0 0, .slice none 0 0] = V := ⟨_, rfl⟩
  have HM2 := hide_ (fun (u : World) => show Calls Try.prog 44 #[V] u fun e w' => e = .returned (.bool true) ∧ Below u.heap.size u w' from by rw [← hV]; exact HM.out u)
  rw [hV]
  have HV := hide_ hV.symm
  clear hV HM
  go_enter Try.func38, Try.ntmps38
  go_wp2_with (first | (refine box_whole 67 (by rfl) _ (by rfl) (by rfl) HV.out ?_; intro W0 HX0 HB0 HZ0; have hcx := HX0.out.cell; have hz0 : w.heap.size < W0.heap.size := HX0.out.lt) | (refine load_whole 67 (by rfl) _ (by rfl) rec_size rec_row HX0.out (by rfl) (by rfl) ?_; rw [← HV.out]))
  refine (HM2.out _).mono ?_
  rintro en w1 ⟨rfl, hb1⟩
  have HX1 := hide_ (HX0.out.below hb1)
  have HB1 := hide_ (HB0.out.trans (hb1.mono HB0.out.size))
  have HL1 := hide_ hb1
  clear hb1 hcx hz0
  have hcx := HX1.out.cell
  have hz0 : w.heap.size < w1.heap.size := HX1.out.lt
  go_wp2_with fail
  refine (HP1.out _).mono ?_
  rintro en w2 ⟨A1, c1, rfl, ho1, hb1⟩
  have HO1 := hide_ ho1
  clear ho1
  have HX2 := hide_ (HX1.out.below hb1)
  have HB2 := hide_ (HB1.out.trans (hb1.mono HB1.out.size))
  have HL2 := hide_ hb1
  clear hb1 hcx hz0
  have hcx := HX2.out.cell
  have hz0 : w.heap.size < w2.heap.size := HX2.out.lt
  go_wp2_with fail
  refine (HP2.out A1 c1 w2 (Sees.own HO1.out)).mono ?_
  rintro en w3 ⟨A2, c2, rfl, ho2, hb2⟩
  have HO2 := hide_ (own_mono (base' := w.heap.size) ho2 HB2.out.size)
  have HB3 := hide_ (HB2.out.trans (hb2.mono HB2.out.size))
  clear ho2 hb2 hcx hz0
  go_wp2
  refine bodyPost_ret (v := .tuple #[.slice A2 2 c2, .int .i64 0]) (by simp [results, Try.results38, go_sem]) rfl ?_
  exact ⟨A2, c2, rfl, HO2.out, HB3.out⟩

theorem awake14_any (w : World) : Calls Try.prog 17 #[] w fun e w' => e = .returned (.bool true) ∧ Below w.heap.size w w' := by
  have HC := hide_ (putEx_any w)
  go_enter Try.func17, Try.ntmps17
  go_wp2_with (refine build_known 67 _ (by rfl) (by rfl) (V := .agg #[.int .u8 2, .int .u8 3, .int .u64 0, .int .u8 0, .int .u32 0, .int .u64 0, .int .u8 0, .int .u32 0, .int .u8 0, .int .u64 0, .int .i64 0, .slice none 0 0, .slice none 0 0, .slice none 0 0, .int .u64 0, .slice none 0 0, .int .u64 0, .int .u32 0, .int .u64 0, .slice none 0 0, .slice none 0 0]) (by kernel_rfl) ?_)
  refine HC.out.mono ?_
  rintro en w1 ⟨A, c, rfl, hown, hb⟩
  have k1 := run_str (P := Try.prog) w1 38 9 5 Try.underlying38 Try.underlying5 Try.underlying9 [2, 3] _ A 2 c rfl (Sees.own hown)
  have HB := hide_ hb
  clear hown hb
  go_wp2
  go_ret
  exact ⟨rfl, HB.out⟩

/-- what is known behind records -/
def foldsM (l : List RecM) : StaM := l.foldl foldM zeroSt
def foldsP (l : List RecP) : StaP := l.foldl foldP zeroSTP
theorem foldsM_succ {l : List RecM} {k : Nat} {x : RecM} (h : l[k]? = some x) : foldsM (l.take (k + 1)) = foldM (foldsM (l.take k)) x := by
  obtain ⟨h1, rfl⟩ := List.getElem?_eq_some_iff.1 h
  rw [List.take_succ_eq_append_getElem h1, foldsM, List.foldl_append]
  rfl
theorem foldsP_succ {l : List RecM} {k : Nat} {x : RecM} (h : l[k]? = some x) : foldsP ((l.take (k + 1)).map RecM.p) = foldP (foldsP ((l.take k).map RecM.p)) x.p := by
  obtain ⟨h1, rfl⟩ := List.getElem?_eq_some_iff.1 h
  rw [List.take_succ_eq_append_getElem h1, List.map_append, foldsP, List.foldl_append]
  rfl
theorem foldl_p (l : List RecM) : ∀ s : StaM, (l.foldl foldM s).p = (l.map RecM.p).foldl foldP s.p := by
  induction l with
  | nil => intro s; rfl
  | cons x l ih => intro s; rw [List.foldl_cons, ih, foldM_p]; rfl
theorem foldsM_p (l : List RecM) : (foldsM l).p = foldsP (l.map RecM.p) := foldl_p l zeroSt
theorem foldl_aside {w : World} {row : Option Nat} (l : List RecM) (h : ∀ m ∈ l, m.ok' ∧ m.r.few ∧ RAside w row m.r ∧ CAside w row m.cf) : ∀ s, SAside w row s → SAside w row (l.foldl foldM s) := by
  induction l with
  | nil => intro s hs; exact hs
  | cons x l ih =>
    intro s hs
    have hx := h x List.mem_cons_self
    exact ih (fun m hm => h m (List.mem_cons_of_mem _ hm)) _ (foldM_aside hs hx.1 hx.2.1 hx.2.2.1 hx.2.2.2)
theorem foldsM_good {w : World} {B : Nat} (l : List RecM) (hB : B ≤ w.heap.size) (h : ∀ m ∈ l, RecM.tame w B m) : StaM.good w w.heap.size (foldsM l) :=
  (foldl_aside (row := none) l (fun m hm => ⟨(h m hm).g.1, (h m hm).f, RAside.low (h m hm).g.2.1 hB (fun z e => by cases e), CAside.low (h m hm).g.2.2 hB (fun z e => by cases e)⟩) zeroSt (SAside.zero w none)).good
theorem sameSt_refl (a : StaP) : sameSt a a = true := by
  unfold sameSt
  rw [slotsB_yes (fun i _ => decide_eq_true rfl)]
  simp
theorem setF_twice (s : StaP) (i : Nat) (x : SlotP) : (s.setF i x).setF i x = s.setF i x := by
  unfold StaP.setF
  simp only
  congr 1
  funext k
  split <;> rfl
theorem foldP_twice (s : StaP) (p : RecP) : foldP (foldP s p) p = foldP s p := by
  unfold foldP
  split
  · unfold doP
    split
    · exact setF_twice _ _ _
    split
    · exact setF_twice _ _ _
    split
    · simp only [StaP.mk.injEq, true_and, and_true]
      omega
    split
    · rfl
    split <;> rfl
  · rfl
theorem RecM.tame.below {w w' : World} {B : Nat} {m : RecM} (h : RecM.tame w B m) (hb : Below B w w') : RecM.tame w' B m := ⟨h.g.below hb, h.f⟩
theorem RecM.tame.more {w : World} {B B' : Nat} {m : RecM} (h : RecM.tame w B m) (hB : B ≤ B') : RecM.tame w B' m := ⟨h.g.more hB, h.f⟩
theorem tame_of {w : World} {B : Nat} {l : List RecM} (h : ∀ m ∈ l, RecM.wide w B m) (hl : ∀ m ∈ l, m.least) : ∀ m ∈ l, RecM.tame w B m := fun m hm => by
  obtain ⟨h1, h2, h3, h4⟩ := (h m hm).tame (hl m hm)
  exact ⟨⟨h1, h2, h3⟩, h4⟩

set_option maxRecDepth 100000 in
set_option maxHeartbeats 6400000 in
theorem refFolds_any (A : Option Addr) (cp : Nat) (l : List RecM) (n : Nat) (B : Nat) (w : World) (hn : l.length = n) (hn9 : n ≤ 60) (hs : Sees w B A (l.flatMap RecM.cs)) (hl : ∀ m ∈ l, RecM.tame w B m) (hB : B ≤ w.heap.size) :
    Calls Try.prog 18 #[.slice A n cp] w fun e w' => e = .returned (foldsM l).v ∧ Below w.heap.size w w' := by
  have HS := hide_ hs
  have HL := hide_ hl
  have HN := hide_ hn
  have HZB := hide_ zeroSt.box_size
  have HZO := hide_ zeroSt.one
  clear hs hl hn
  go_enter Try.func18, Try.ntmps18
  go_upto_region 1 with (refine alloc_whole 62 (by rfl) (by rfl) sta_zero ?_; intro W0 HY0 HB0 HZ0)
  go_upto_region 2 with (first | (refine build_known 62 _ (by rfl) (by rfl) (V := .agg zeroSt.box) (by kernel_rfl) ?_) | (refine alloc_whole 62 (by rfl) (by rfl) sta_zero ?_; intro W1 HX1 HB1 HZ1) | (refine store_whole 62 (by rfl) _ _ (by rfl) sta_size (by rfl) (by rfl) (cs := zeroSt.box) (by rfl) HZB.out HZO.out HX1.out HZB.out ?_; intro W2 HX2 HG2 HZ2))
  obtain ⟨z0, hz0⟩ : ∃ z, w.heap.size = z := ⟨_, rfl⟩
  obtain ⟨z1, hz1⟩ : ∃ z, W0.heap.size = z := ⟨_, rfl⟩
  have HZS := hide_ (show z1 = z0 + 1 from by have := HZ0.out; omega)
  have HZE := hide_ hz0
  have HY2 := hide_ (show BoxAt W2 w.heap.size zeroSt.box 62 from (HG2.out.block _ (HY0.out.below HB1.out).lt (fun e => by injection e with e; have := HZ0.out; omega)).trans (HY0.out.below HB1.out))
  rw [hz0] at HY2
  have HW2 := hide_ ((HB0.out.trans (HB1.out.mono HB0.out.size)).grown HG2.out (HB0.out.trans (HB1.out.mono HB0.out.size)).size (fun q hq => by injection hq with hq; have := HB0.out.size; omega))
  rw [hz1] at HX2 ⊢
  rw [hz0]
  clear HY0 HB0 HZ0 HX1 HB1 HZ1 HG2 HZ2 hz0 hz1
  go_upto_region 3 with fail
  go_loopw [4, 8] (fun _ i wr => ∃ k : Nat, k ≤ n ∧ i = .int .i64 k ∧ Hid (BoxAt wr z1 (foldsM (l.take k)).box 62) ∧ Hid (BoxAt wr z0 zeroSt.box 62) ∧ Hid (Below w.heap.size w wr)) (fun _ i _ => n - (intOf i).toNat)
  case atStart => exact ⟨0, Nat.zero_le _, rfl, HX2, HY2, HW2⟩
  case round =>
    obtain ⟨k, hk, rfl, HX, HY, HB⟩ := hrel
    by_cases hlt : k < n
    case neg =>
      have hkn : n = k := by omega
      subst hkn
      have hx := HX.out
      rw [List.take_of_length_le (by rw [HN.out]; exact Nat.le_refl _)] at hx
      have HX9 := hide_ hx
      have HQS := hide_ (foldsM l).box_size
      have HQO := hide_ (foldsM l).one
      clear hx
      go_wp2_with (first | (refine load_whole 62 (by rfl) _ (by rfl) sta_size sta_row HX9.out (by rfl) HQS.out ?_) | (refine store_whole 62 (by rfl) _ _ (by rfl) sta_size (by rfl) (by rfl) (cs := (foldsM l).box) (by rfl) HQS.out HQO.out HY.out HZB.out ?_; intro W8 HX8 HG8 HZ8))
      refine bodyPost_ret (res_whole sta_size sta_row (by rfl) (by rfl) HX8.out HQS.out) rfl ?_
      have hze := HZE.out
      exact ⟨rfl, HB.out.grown HG8.out HB.out.size (fun q hq => by injection hq with hq; omega)⟩
    obtain ⟨x, hx⟩ : ∃ x, l[k]? = some x := ⟨_, List.getElem?_eq_getElem (by rw [HN.out]; exact hlt)⟩
    obtain ⟨b, off, rfl, hb, hrg⟩ := HS.out.rec14 hx
    have htm := HL.out x (List.mem_of_getElem? hx)
    have HRG := hide_ (fun (u : World) (h : Below w.heap.size w u) => hrg u (fun q hq => (h.mono hB).cell hq))
    have HNX := hide_ (foldsM_succ hx)
    obtain ⟨s, hsx⟩ : ∃ s, foldsM (l.take k) = s := ⟨_, rfl⟩
    rw [hsx] at HX HNX
    have HFO := hide_ (fun (u : World) (h : Below w.heap.size w u) => refFold_any s x B u (htm.below (h.mono hB)) (Nat.le_trans hB h.size))
    have HSZ := hide_ s.box_size
    have HSV := hide_ (show s.v = .agg s.box from rfl)
    have HXV := hide_ (show x.v = .agg x.cs.toArray from rfl)
    have HXL := hide_ x.cs_len
    obtain ⟨s2, hs2⟩ : ∃ s2, foldM s x = s2 := ⟨_, rfl⟩
    simp only [hs2] at HFO HNX
    obtain ⟨VS, hVS⟩ : ∃ V, s.v = V := ⟨_, rfl⟩
    obtain ⟨VX, hVX⟩ : ∃ V, x.v = V := ⟨_, rfl⟩
    simp only [hVS, hVX] at HFO
    rw [hVS] at HSV
    rw [hVX] at HXV
    have HS2Z := hide_ s2.box_size
    have HS2O := hide_ s2.one
    have HBL := hide_ (fun (u : World) (h : Below w.heap.size w u) => Nat.lt_of_lt_of_le hb (Nat.le_trans hB h.size))
    have HBZ := hide_ (show b < z1 from by have := HZS.out; have := HZE.out; omega)
    have hbz := HBL.out _ HB.out
    have hk21 : (k : Int) * 21 = ((k * 21 : Nat) : Int) := by omega
    have hlt2 : ((k : Int) < (n : Int)) := by omega
    clear hx hrg htm hsx hs2 hVS hVX hb
    have HD := hide_ (show Below wr.heap.size wr wr.drew from (Below.refl _ _).drew)
    have HBD := hide_ (HB.out.trans (HD.out.mono HB.out.size))
    go_upto_region 5 with fail
    refine wp_region_held_drew (S := fun u => u.rangeAt b (off + k * 21) x.cs) (by kernel_rfl) (HRG.out _ HBD.out) (fun hHeld => ?_)
    refine tkY 1 12 ?v1 rfl ?hy1 (by assumption) ?rest1
    case hy1 => intro w hSw; clear hSw; go_simp <;> with_reducible rfl
    simp only [Act.put, sTI, sT0, sT1]
    refine tkY 2 13 ?v2 rfl ?hy2 (by assumption) ?rest2
    case hy2 => intro w hSw; clear hSw; go_simp <;> with_reducible rfl
    simp only [Act.put, sTI, sT0, sT1]
    refine tkY 3 14 ?v3 rfl ?hy3 (by assumption) ?rest3
    case hy3 => intro w hSw; clear hSw; go_simp <;> with_reducible rfl
    simp only [Act.put, sTI, sT0, sT1]
    refine wpAnyH_take (i := 4) (oi := ⟨some 15, _, _, _, _, _⟩) (v := VX) rfl (by kernel_rfl) (by kernel_rfl) (by kernel_rfl) (fun _ _ _ h => h) (yl_range 67 (by rfl) _ (by rfl) rec_size rec_row HXV.out (fun _ h => h) HXL.out (by rfl)) (by assumption) ?_
    simp only [Act.put, sTI, sT0, sT1]
    refine wpAnyH_ready (rs := [0]) (by kernel_rfl) (by simp) ?_
    refine AllReadyH.cons rfl (fun K hK => ?_) AllReadyH.nil
    refine step_load_whole 62 (by rfl) _ (by rfl) sta_size sta_row (HX.out.below HD.out) (by rfl) HSZ.out ?_
    rw [← HSV.out]
    refine hK.out _ _ (HRG.out _ HBD.out) (fun hHeld => ?_)
    clear hK K
    try simp only [Act.put, sTI]
    refine wpAnyH_ready (rs := [5]) (by kernel_rfl) (by simp) ?_
    refine AllReadyH.cons rfl (fun K hK => ?_) AllReadyH.nil
    go_simp
    go_wp2_with fail
    refine (HFO.out _ HBD.out).mono ?_
    rintro en u1 ⟨rfl, hb1⟩
    have HU1 := hide_ (HD.out.trans (hb1.mono HD.out.size))
    have HBU := hide_ (HB.out.trans (HU1.out.mono HB.out.size))
    have HX1 := hide_ (HX.out.below HU1.out)
    have HY1 := hide_ (HY.out.below HU1.out)
    clear hb1
    refine hK.out _ _ (HRG.out _ HBU.out) (fun hHeld => ?_)
    clear hK K
    refine wpAnyH_ready (rs := [6]) (by kernel_rfl) (by simp) ?_
    refine AllReadyH.cons rfl (fun K hK => ?_) AllReadyH.nil
    refine step_store_whole 62 (by rfl) _ _ (by rfl) sta_size (by rfl) (by rfl) (cs := s2.box) (by rfl) HS2Z.out HS2O.out HX1.out HSZ.out ?_ (by rfl)
    intro W6 HX6 HG6 HZ6
    have HB6 := hide_ (HBU.out.grown HG6.out HBU.out.size (fun q hq => by injection hq with hq; have := HZS.out; have := HZE.out; omega))
    have HY6 := hide_ (show BoxAt W6 z0 zeroSt.box 62 from (HG6.out.block _ HY1.out.lt (fun e => by injection e with e; have := HZS.out; omega)).trans HY1.out)
    refine hK.out _ _ (HRG.out _ HB6.out) (fun hHeld => ?_)
    clear hK K
    refine wpAnyH_done (by kernel_rfl) ?_ _
    clear hHeld
    go_wp2
    go_roundw
    case rel => exact ⟨k + 1, by omega, by go_num, hide_ (by rw [HNX.out]; exact HX6.out), HY6, HB6⟩
    case measure => simp [intOf]; omega
end Go.Proofs.Ytecbpmnolgkllaa
