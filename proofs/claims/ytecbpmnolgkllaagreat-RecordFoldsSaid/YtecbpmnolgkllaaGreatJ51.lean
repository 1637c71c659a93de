/-
  Texts of this claim put together: Law14, All14, Mat14.
-/
import Derived.Test.YtecbpmnolgkllaaGreatJ50
import Derived.Test.YtecbpmnolgkllaaGreatJ46
import Derived.Test.YtecbpmnolgkllaaGreatJ47
import Derived.Test.YtecbpmnolgkllaaGreatJ22
import Derived.Test.YtecbpmnolgkllaaGreatJ04
import Derived.Deep.DeepCutAuto
/-
  The example of layer 14; the document's Folds; what the laws lean on.
-/
namespace Go.Proofs.YtecbpmnolgkllaaGreat
open Go.RowKit

def exR : RecM := { zeroRec with ki := 2, ke := 3 }
theorem exR_may : mayR exR.p = true := by decide
theorem exR_good (w : World) (B : Nat) : RecM.good w B exR := ⟨by simp [RecM.ok', BalIn, N64, N32, exR, zeroRec], zeroM_ok w B, zeroCf_ok w B⟩

set_option maxRecDepth 100000 in
set_option maxHeartbeats 3200000 in
theorem putEx_any (w : World) : Calls Tryz.prog 16 #[.agg #[.int .u8 2, .int .u8 3, .int .u64 0, .int .u8 0, .int .u32 0, .int .u64 0, .int .u8 0, .int .u32 0, .int .u8 0, .int .u64 0, .int .i64 0, .slice none 0 0, .slice none 0 0, .slice none 0 0, .int .u64 0, .slice none 0 0, .int .u64 0, .int .u32 0, .int .u64 0, .slice none 0 0, .slice none 0 0]] w fun e w' => ∃ A c, e = .returned (.tuple #[.slice A 2 c, .int .i64 0]) ∧ w'.ownsRow w.heap.size 5 1 (.slice A 2 c) 2 (bv [2, 3]) ∧ Below w.heap.size w w' := by
  have HM := hide_ (fun (u : World) => mayRec_any exR u.heap.size u (exR_good _ _) (Nat.le_refl _))
  rw [exR_may] at HM
  have HP1 := hide_ (fun (u : World) => PutNum_any [] [2] 2 u.heap.size none 0 0 u rfl (by rw [numB_small (by decide)]; rfl) (by omega) (Sees.empty _ _ _) (Nat.le_refl _) (by simp))
  have HP2 := hide_ (fun (A : Option Addr) (c : Nat) (u : World) (h : Sees u u.heap.size A (bv [2])) => PutNum_any [2] [2, 3] 3 u.heap.size A 1 c u rfl (by rw [numB_small (by decide)]; rfl) (by omega) h (Nat.le_refl _) (by simp))
  obtain ⟨V, hV⟩ : ∃ V : Value, .agg #[.int .u8 2, .int .u8 3, .int .u64 0, .int .u8 0, .int .u32 0, .int .u64 0, .int .u8 0, .int .u32 0, .int .u8 0, .int .u64 0, .int .i64 0, .slice none 0 0, .slice none 0 0, .slice none 0 0, .int .u64 0, .slice none 0 0, .int .u64 0, .int .u32 0, .int .u64 0, .slice none 0 0, .slice none 0 0] = V := ⟨_, rfl⟩
  have HM2 := hide_ (fun (u : World) => show Calls Tryz.prog 18 #[V] u fun e w' => e = .returned (.bool true) ∧ Below u.heap.size u w' from by rw [← hV]; exact HM.out u)
  rw [hV]
  have HV := hide_ hV.symm
  clear hV HM
  go_enter Tryz.func16, Tryz.ntmps16
  go_wp2_with (first | (refine box_whole 54 (by rfl) _ (by rfl) (by rfl) HV.out ?_; intro W0 HX0 HB0 HZ0; have hcx := HX0.out.cell; have hz0 : w.heap.size < W0.heap.size := HX0.out.lt) | (refine load_whole 54 (by rfl) _ (by rfl) rec_size rec_row HX0.out (by rfl) (by rfl) ?_; rw [← HV.out]))
  refine (HM2.out _).mono ?_
  rintro en w1 ⟨rfl, hb1⟩
  have HX1 := hide_ (HX0.out.below hb1)
  have HB1 := hide_ (HB0.out.trans (hb1.mono HB0.out.size))
  have HL1 := hide_ hb1
  clear hb1 hcx hz0
  have hcx := HX1.out.cell
  have hz0 : w.heap.size < w1.heap.size := HX1.out.lt
  go_wp2_with fail
  refine (HP1.out _).mono ?_
  rintro en w2 ⟨A1, c1, rfl, ho1, hb1⟩
  have HO1 := hide_ ho1
  clear ho1
  have HX2 := hide_ (HX1.out.below hb1)
  have HB2 := hide_ (HB1.out.trans (hb1.mono HB1.out.size))
  have HL2 := hide_ hb1
  clear hb1 hcx hz0
  have hcx := HX2.out.cell
  have hz0 : w.heap.size < w2.heap.size := HX2.out.lt
  go_wp2_with fail
  refine (HP2.out A1 c1 w2 (Sees.own HO1.out)).mono ?_
  rintro en w3 ⟨A2, c2, rfl, ho2, hb2⟩
  have HO2 := hide_ (own_mono (base' := w.heap.size) ho2 HB2.out.size)
  have HB3 := hide_ (HB2.out.trans (hb2.mono HB2.out.size))
  clear ho2 hb2 hcx hz0
  go_wp2
  refine bodyPost_ret (v := .tuple #[.slice A2 2 c2, .int .i64 0]) (by simp [results, Tryz.results16, go_sem]) rfl ?_
  exact ⟨A2, c2, rfl, HO2.out, HB3.out⟩

theorem awake14_any (w : World) : Calls Tryz.prog 15 #[] w fun e w' => e = .returned (.bool true) ∧ Below w.heap.size w w' := by
  have HC := hide_ (putEx_any w)
  go_enter Tryz.func15, Tryz.ntmps15
  go_wp2_with (refine build_known 54 _ (by rfl) (by rfl) (V := .agg #[.int .u8 2, .int .u8 3, .int .u64 0, .int .u8 0, .int .u32 0, .int .u64 0, .int .u8 0, .int .u32 0, .int .u8 0, .int .u64 0, .int .i64 0, .slice none 0 0, .slice none 0 0, .slice none 0 0, .int .u64 0, .slice none 0 0, .int .u64 0, .int .u32 0, .int .u64 0, .slice none 0 0, .slice none 0 0]) (by kernel_rfl) ?_)
  refine HC.out.mono ?_
  rintro en w1 ⟨A, c, rfl, hown, hb⟩
  have k1 := run_str (P := Tryz.prog) w1 50 9 5 Tryz.underlying50 Tryz.underlying5 Tryz.underlying9 [2, 3] _ A 2 c rfl (Sees.own hown)
  have HB := hide_ hb
  clear hown hb
  go_wp2
  go_ret
  exact ⟨rfl, HB.out⟩

/-- what is known behind records -/
def foldsM (l : List RecM) : StaM := l.foldl foldM zeroSt
def foldsP (l : List RecP) : StaP := l.foldl foldP zeroSTP
theorem foldsM_succ {l : List RecM} {k : Nat} {x : RecM} (h : l[k]? = some x) : foldsM (l.take (k + 1)) = foldM (foldsM (l.take k)) x := by
  obtain ⟨h1, rfl⟩ := List.getElem?_eq_some_iff.1 h
  rw [List.take_succ_eq_append_getElem h1, foldsM, List.foldl_append]
  rfl
theorem foldsP_succ {l : List RecM} {k : Nat} {x : RecM} (h : l[k]? = some x) : foldsP ((l.take (k + 1)).map RecM.p) = foldP (foldsP ((l.take k).map RecM.p)) x.p := by
  obtain ⟨h1, rfl⟩ := List.getElem?_eq_some_iff.1 h
  rw [List.take_succ_eq_append_getElem h1, List.map_append, foldsP, List.foldl_append]
  rfl
theorem foldl_p (l : List RecM) : ∀ s : StaM, (l.foldl foldM s).p = (l.map RecM.p).foldl foldP s.p := by
  induction l with
  | nil => intro s; rfl
  | cons x l ih => intro s; rw [List.foldl_cons, ih, foldM_p]; rfl
theorem foldsM_p (l : List RecM) : (foldsM l).p = foldsP (l.map RecM.p) := foldl_p l zeroSt
theorem foldl_aside {w : World} {row : Option Nat} (l : List RecM) (h : ∀ m ∈ l, m.ok' ∧ m.r.few ∧ RAside w row m.r ∧ CAside w row m.cf) : ∀ s, SAside w row s → SAside w row (l.foldl foldM s) := by
  induction l with
  | nil => intro s hs; exact hs
  | cons x l ih =>
    intro s hs
    have hx := h x List.mem_cons_self
    exact ih (fun m hm => h m (List.mem_cons_of_mem _ hm)) _ (foldM_aside hs hx.1 hx.2.1 hx.2.2.1 hx.2.2.2)
theorem foldsM_good {w : World} {B : Nat} (l : List RecM) (hB : B ≤ w.heap.size) (h : ∀ m ∈ l, RecM.tame w B m) : StaM.good w w.heap.size (foldsM l) :=
  (foldl_aside (row := none) l (fun m hm => ⟨(h m hm).g.1, (h m hm).f, RAside.low (h m hm).g.2.1 hB (fun z e => by cases e), CAside.low (h m hm).g.2.2 hB (fun z e => by cases e)⟩) zeroSt (SAside.zero w none)).good
theorem sameSt_refl (a : StaP) : sameSt a a = true := by
  unfold sameSt
  rw [slotsB_yes (fun i _ => decide_eq_true rfl)]
  simp
theorem setF_twice (s : StaP) (i : Nat) (x : SlotP) : (s.setF i x).setF i x = s.setF i x := by
  unfold StaP.setF
  simp only
  congr 1
  funext k
  split <;> rfl
theorem foldP_twice (s : StaP) (p : RecP) : foldP (foldP s p) p = foldP s p := by
  unfold foldP
  split
  · unfold doP
    split
    · exact setF_twice _ _ _
    split
    · exact setF_twice _ _ _
    split
    · simp only [StaP.mk.injEq, true_and, and_true]
      omega
    split
    · rfl
    split <;> rfl
  · rfl
theorem RecM.tame.below {w w' : World} {B : Nat} {m : RecM} (h : RecM.tame w B m) (hb : Below B w w') : RecM.tame w' B m := ⟨h.g.below hb, h.f⟩
theorem RecM.tame.more {w : World} {B B' : Nat} {m : RecM} (h : RecM.tame w B m) (hB : B ≤ B') : RecM.tame w B' m := ⟨h.g.more hB, h.f⟩
theorem tame_of {w : World} {B : Nat} {l : List RecM} (h : ∀ m ∈ l, RecM.wide w B m) (hl : ∀ m ∈ l, m.least) : ∀ m ∈ l, RecM.tame w B m := fun m hm => by
  obtain ⟨h1, h2, h3, h4⟩ := (h m hm).tame (hl m hm)
  exact ⟨⟨h1, h2, h3⟩, h4⟩

set_option maxRecDepth 100000 in
set_option maxHeartbeats 6400000 in
theorem refFolds_any (A : Option Addr) (cp : Nat) (l : List RecM) (n : Nat) (B : Nat) (w : World) (hn : l.length = n) (hn9 : n ≤ 60) (hs : Sees w B A (l.flatMap RecM.cs)) (hl : ∀ m ∈ l, RecM.tame w B m) (hB : B ≤ w.heap.size) :
    Calls Tryz.prog 22 #[.slice A n cp] w fun e w' => e = .returned (foldsM l).v ∧ Below w.heap.size w w' := by
  have HS := hide_ hs
  have HL := hide_ hl
  have HN := hide_ hn
  have HZB := hide_ zeroSt.box_size
  have HZO := hide_ zeroSt.one
  clear hs hl hn
  go_enter Tryz.func22, Tryz.ntmps22
  go_upto_region 1 with (refine alloc_whole 68 (by rfl) (by rfl) sta_zero ?_; intro W0 HY0 HB0 HZ0)
  go_upto_region 2 with (first | (refine build_known 68 _ (by rfl) (by rfl) (V := .agg zeroSt.box) (by kernel_rfl) ?_) | (refine alloc_whole 68 (by rfl) (by rfl) sta_zero ?_; intro W1 HX1 HB1 HZ1) | (refine store_whole 68 (by rfl) _ _ (by rfl) sta_size (by rfl) (by rfl) (cs := zeroSt.box) (by rfl) HZB.out HZO.out HX1.out HZB.out ?_; intro W2 HX2 HG2 HZ2))
  obtain ⟨z0, hz0⟩ : ∃ z, w.heap.size = z := ⟨_, rfl⟩
  obtain ⟨z1, hz1⟩ : ∃ z, W0.heap.size = z := ⟨_, rfl⟩
  have HZS := hide_ (show z1 = z0 + 1 from by have := HZ0.out; omega)
  have HZE := hide_ hz0
  have HY2 := hide_ (show BoxAt W2 w.heap.size zeroSt.box 68 from (HG2.out.block _ (HY0.out.below HB1.out).lt (fun e => by injection e with e; have := HZ0.out; omega)).trans (HY0.out.below HB1.out))
  rw [hz0] at HY2
  have HW2 := hide_ ((HB0.out.trans (HB1.out.mono HB0.out.size)).grown HG2.out (HB0.out.trans (HB1.out.mono HB0.out.size)).size (fun q hq => by injection hq with hq; have := HB0.out.size; omega))
  rw [hz1] at HX2 ⊢
  rw [hz0]
  clear HY0 HB0 HZ0 HX1 HB1 HZ1 HG2 HZ2 hz0 hz1
  go_upto_region 3 with fail
  go_loopw [4, 8] (fun _ i wr => ∃ k : Nat, k ≤ n ∧ i = .int .i64 k ∧ Hid (BoxAt wr z1 (foldsM (l.take k)).box 68) ∧ Hid (BoxAt wr z0 zeroSt.box 68) ∧ Hid (Below w.heap.size w wr)) (fun _ i _ => n - (intOf i).toNat)
  case atStart => exact ⟨0, Nat.zero_le _, rfl, HX2, HY2, HW2⟩
  case round =>
    obtain ⟨k, hk, rfl, HX, HY, HB⟩ := hrel
    by_cases hlt : k < n
    case neg =>
      have hkn : n = k := by omega
      subst hkn
      have hx := HX.out
      rw [List.take_of_length_le (by rw [HN.out]; exact Nat.le_refl _)] at hx
      have HX9 := hide_ hx
      have HQS := hide_ (foldsM l).box_size
      have HQO := hide_ (foldsM l).one
      clear hx
      go_wp2_with (first | (refine load_whole 68 (by rfl) _ (by rfl) sta_size sta_row HX9.out (by rfl) HQS.out ?_) | (refine store_whole 68 (by rfl) _ _ (by rfl) sta_size (by rfl) (by rfl) (cs := (foldsM l).box) (by rfl) HQS.out HQO.out HY.out HZB.out ?_; intro W8 HX8 HG8 HZ8))
      refine bodyPost_ret (res_whole sta_size sta_row (by rfl) (by rfl) HX8.out HQS.out) rfl ?_
      have hze := HZE.out
      exact ⟨rfl, HB.out.grown HG8.out HB.out.size (fun q hq => by injection hq with hq; omega)⟩
    obtain ⟨x, hx⟩ : ∃ x, l[k]? = some x := ⟨_, List.getElem?_eq_getElem (by rw [HN.out]; exact hlt)⟩
    obtain ⟨b, off, rfl, hb, hrg⟩ := HS.out.rec14 hx
    have htm := HL.out x (List.mem_of_getElem? hx)
    have HRG := hide_ (fun (u : World) (h : Below w.heap.size w u) => hrg u (fun q hq => (h.mono hB).cell hq))
    have HNX := hide_ (foldsM_succ hx)
    obtain ⟨s, hsx⟩ : ∃ s, foldsM (l.take k) = s := ⟨_, rfl⟩
    rw [hsx] at HX HNX
    have HFO := hide_ (fun (u : World) (h : Below w.heap.size w u) => refFold_any s x B u (htm.below (h.mono hB)) (Nat.le_trans hB h.size))
    have HSZ := hide_ s.box_size
    have HSV := hide_ (show s.v = .agg s.box from rfl)
    have HXV := hide_ (show x.v = .agg x.cs.toArray from rfl)
    have HXL := hide_ x.cs_len
    obtain ⟨s2, hs2⟩ : ∃ s2, foldM s x = s2 := ⟨_, rfl⟩
    simp only [hs2] at HFO HNX
    obtain ⟨VS, hVS⟩ : ∃ V, s.v = V := ⟨_, rfl⟩
    obtain ⟨VX, hVX⟩ : ∃ V, x.v = V := ⟨_, rfl⟩
    simp only [hVS, hVX] at HFO
    rw [hVS] at HSV
    rw [hVX] at HXV
    have HS2Z := hide_ s2.box_size
    have HS2O := hide_ s2.one
    have HBL := hide_ (fun (u : World) (h : Below w.heap.size w u) => Nat.lt_of_lt_of_le hb (Nat.le_trans hB h.size))
    have HBZ := hide_ (show b < z1 from by have := HZS.out; have := HZE.out; omega)
    have hbz := HBL.out _ HB.out
    have hk21 : (k : Int) * 21 = ((k * 21 : Nat) : Int) := by omega
    have hlt2 : ((k : Int) < (n : Int)) := by omega
    clear hx hrg htm hsx hs2 hVS hVX hb
    have HD := hide_ (show Below wr.heap.size wr wr.drew from (Below.refl _ _).drew)
    have HBD := hide_ (HB.out.trans (HD.out.mono HB.out.size))
    go_upto_region 5 with fail
    refine wp_region_held_drew (S := fun u => u.rangeAt b (off + k * 21) x.cs) (by kernel_rfl) (HRG.out _ HBD.out) (fun hHeld => ?_)
    refine tkY 1 12 ?v1 rfl ?hy1 (by assumption) ?rest1
    case hy1 => intro w hSw; clear hSw; go_simp <;> with_reducible rfl
    simp only [Act.put, sTI, sT0, sT1]
    refine tkY 2 13 ?v2 rfl ?hy2 (by assumption) ?rest2
    case hy2 => intro w hSw; clear hSw; go_simp <;> with_reducible rfl
    simp only [Act.put, sTI, sT0, sT1]
    refine tkY 3 14 ?v3 rfl ?hy3 (by assumption) ?rest3
    case hy3 => intro w hSw; clear hSw; go_simp <;> with_reducible rfl
    simp only [Act.put, sTI, sT0, sT1]
    refine wpAnyH_take (i := 4) (oi := ⟨some 15, _, _, _, _, _⟩) (v := VX) rfl (by kernel_rfl) (by kernel_rfl) (by kernel_rfl) (fun _ _ _ h => h) (yl_range 54 (by rfl) _ (by rfl) rec_size rec_row HXV.out (fun _ h => h) HXL.out (by rfl)) (by assumption) ?_
    simp only [Act.put, sTI, sT0, sT1]
    refine wpAnyH_ready (rs := [0]) (by kernel_rfl) (by simp) ?_
    refine AllReadyH.cons rfl (fun K hK => ?_) AllReadyH.nil
    refine step_load_whole 68 (by rfl) _ (by rfl) sta_size sta_row (HX.out.below HD.out) (by rfl) HSZ.out ?_
    rw [← HSV.out]
    refine hK.out _ _ (HRG.out _ HBD.out) (fun hHeld => ?_)
    clear hK K
    try simp only [Act.put, sTI]
    refine wpAnyH_ready (rs := [5]) (by kernel_rfl) (by simp) ?_
    refine AllReadyH.cons rfl (fun K hK => ?_) AllReadyH.nil
    go_simp
    go_wp2_with fail
    refine (HFO.out _ HBD.out).mono ?_
    rintro en u1 ⟨rfl, hb1⟩
    have HU1 := hide_ (HD.out.trans (hb1.mono HD.out.size))
    have HBU := hide_ (HB.out.trans (HU1.out.mono HB.out.size))
    have HX1 := hide_ (HX.out.below HU1.out)
    have HY1 := hide_ (HY.out.below HU1.out)
    clear hb1
    refine hK.out _ _ (HRG.out _ HBU.out) (fun hHeld => ?_)
    clear hK K
    refine wpAnyH_ready (rs := [6]) (by kernel_rfl) (by simp) ?_
    refine AllReadyH.cons rfl (fun K hK => ?_) AllReadyH.nil
    refine step_store_whole 68 (by rfl) _ _ (by rfl) sta_size (by rfl) (by rfl) (cs := s2.box) (by rfl) HS2Z.out HS2O.out HX1.out HSZ.out ?_ (by rfl)
    intro W6 HX6 HG6 HZ6
    have HB6 := hide_ (HBU.out.grown HG6.out HBU.out.size (fun q hq => by injection hq with hq; have := HZS.out; have := HZE.out; omega))
    have HY6 := hide_ (show BoxAt W6 z0 zeroSt.box 68 from (HG6.out.block _ HY1.out.lt (fun e => by injection e with e; have := HZS.out; omega)).trans HY1.out)
    refine hK.out _ _ (HRG.out _ HB6.out) (fun hHeld => ?_)
    clear hK K
    refine wpAnyH_done (by kernel_rfl) ?_ _
    clear hHeld
    go_wp2
    go_roundw
    case rel => exact ⟨k + 1, by omega, by go_num, hide_ (by rw [HNX.out]; exact HX6.out), HY6, HB6⟩
    case measure => simp [intOf]; omega
end Go.Proofs.YtecbpmnolgkllaaGreat

/-
  All records of what an acceptor knows.
-/
namespace Go.Proofs.YtecbpmnolgkllaaGreat
open Go.RowKit

theorem recs_info : (Tryz.prog.info? 54).map (fun i => (i.zero, i.size, i.bytes)) = some (some zeroRec.v, 21, 240) := by kernel_rfl
theorem slot_zero : (Tryz.prog.info? 65).map (fun i => (i.zero, i.size)) = some (some (.agg zeroSl.box), 15) := by kernel_rfl
theorem slots_size : (Tryz.prog.info? 66).map (·.size) = some 240 := by kernel_rfl
theorem slots_row : ∃ d, Tryz.prog.underlying 66 = some d ∧ d.isRow = true := ⟨_, Tryz.underlying66, rfl⟩
theorem bal_size : (Tryz.prog.info? 49).map (·.size) = some 3 := by kernel_rfl
theorem bal_row : ∃ d, Tryz.prog.underlying 49 = some d ∧ d.isRow = true := ⟨_, Tryz.underlying49, rfl⟩
theorem regs_size : (Tryz.prog.info? 31).map (·.size) = some 8 := by kernel_rfl

theorem conv_key {k : Nat} (h : k < 16) (w : World) : (convert 3 5 (.int .i64 k)).run Tryz.prog w = .ok (.int .u8 k) w := by
  rcases (show k = 0 ∨ k = 1 ∨ k = 2 ∨ k = 3 ∨ k = 4 ∨ k = 5 ∨ k = 6 ∨ k = 7 ∨ k = 8 ∨ k = 9 ∨ k = 10 ∨ k = 11 ∨ k = 12 ∨ k = 13 ∨ k = 14 ∨ k = 15 from by omega) with h | h | h | h | h | h | h | h | h | h | h | h | h | h | h | h <;> subst h <;> kernel_rfl

def recFe (n : Nat) : RecM := { zeroRec with ki := 3, fe := n }
def recLi (n : Nat) : RecM := { zeroRec with ki := 4, li := n }
def recCf (c : CfM) : RecM := { zeroRec with ki := 5, cf := c }
def recSl (k : Nat) (x : SlotM) : RecM := ⟨1, k, x.pc, x.pn, x.pl, x.ac, x.an, x.al, x.r, 0, 0, zeroCf⟩
def feL (y : StaM) : List RecM := if y.fe = 0 then [] else [recFe y.fe]
def liL (y : StaM) : List RecM := if y.li = 0 then [] else [recLi y.li]
def cfL (y : StaM) : List RecM := if mayC y.cf.C y.cf.o.l y.cf.n.l = true then [recCf y.cf] else []
def slL (y : StaM) (k : Nat) : List RecM := (List.range k).flatMap fun i => if (y.f i).ha = true then [recSl i (y.f i)] else []
theorem slL_yes {y : StaM} {k : Nat} (h : (y.f k).ha = true) : slL y (k + 1) = slL y k ++ [recSl k (y.f k)] := by
  unfold slL
  rw [List.range_succ, List.flatMap_append, List.flatMap_singleton, if_pos h]
theorem slL_no {y : StaM} {k : Nat} (h : (y.f k).ha = false) : slL y (k + 1) = slL y k := by
  unfold slL
  rw [List.range_succ, List.flatMap_append, List.flatMap_singleton, if_neg (by rw [h]; decide), List.append_nil]
theorem slL_len (y : StaM) : ∀ k, (slL y k).length ≤ k
  | 0 => Nat.le_refl _
  | k + 1 => by
    have := slL_len y k
    cases h : (y.f k).ha with
    | true => rw [slL_yes h, List.length_append, List.length_singleton]; omega
    | false => rw [slL_no h]; omega
def flL (y : StaM) : List RecM := feL y ++ liL y
def headR (y : StaM) : List RecM := flL y ++ cfL y
def upR (y : StaM) (k : Nat) : List RecM := headR y ++ slL y k
theorem feL_len (y : StaM) : (feL y).length ≤ 1 := by unfold feL; split <;> simp
theorem liL_len (y : StaM) : (liL y).length ≤ 1 := by unfold liL; split <;> simp
theorem cfL_len (y : StaM) : (cfL y).length ≤ 1 := by unfold cfL; split <;> simp
theorem flL_len (y : StaM) : (flL y).length ≤ 2 := by have := feL_len y; have := liL_len y; unfold flL; rw [List.length_append]; omega
theorem headR_len (y : StaM) : (headR y).length ≤ 3 := by have := flL_len y; have := cfL_len y; unfold headR; rw [List.length_append]; omega
theorem upR_len (y : StaM) (k : Nat) : (upR y k).length ≤ k + 3 := by have := headR_len y; have := slL_len y k; unfold upR; rw [List.length_append]; omega
theorem upR_zero (y : StaM) : upR y 0 = headR y := by simp [upR, slL]
theorem upR_yes {y : StaM} {k : Nat} (h : (y.f k).ha = true) : upR y (k + 1) = upR y k ++ [recSl k (y.f k)] := by unfold upR; rw [slL_yes h, List.append_assoc]
theorem upR_no {y : StaM} {k : Nat} (h : (y.f k).ha = false) : upR y (k + 1) = upR y k := by unfold upR; rw [slL_no h]
def allR (y : StaM) : List RecM := upR y 16
def recsL (l : List RecM) : List Value := l.flatMap RecM.cs
theorem recsL_one (l : List RecM) (m : RecM) : recsL l ++ recsL [m] = recsL (l ++ [m]) := by simp [recsL]
theorem recsL_len : ∀ l : List RecM, (recsL l).length = l.length * 21
  | [] => rfl
  | m :: l => by
    have := recsL_len l
    rw [recsL] at this
    rw [recsL, List.flatMap_cons, List.length_append, this, m.cs_len, List.length_cons]
    omega
theorem recsL_one' (m : RecM) : ∀ u ∈ recsL [m], u.oneCell' = true := fun u hu => by
  simp [recsL, RecM.cs, RecM.box] at hu
  rcases hu with h | h | h | h | h | h | h | h | h | h | h | h | h | h | h | h | h | h | h | h | h <;> subst h <;> rfl
theorem recsL_box (m : RecM) : recsL [m] = m.box.toList := by simp [recsL, RecM.cs]

theorem bslice_rec (m : RecM) (u : World) : (Instr.buildSlice 56 1 #[(0, Value.agg m.box)]).run Tryz.prog u = .ok (.slice (some ⟨u.heap.size, 0, none⟩) 1 1) (u.alloc (.cells m.box 54)) := by
  obtain ⟨ki, ke, pc, pn, pl, ac, an, al, ⟨rk, inc, st, ⟨vA, vc, vl⟩, ⟨dA, dc, dl⟩, ⟨oA, oc, ol⟩, la, ⟨mA, mc, ml⟩⟩, fe, li, ⟨C, ⟨xA, xc, xl⟩, ⟨yA, yc, yl⟩⟩⟩ := m
  kernel_rfl
theorem build_fe (n : Nat) (u : World) : (Instr.build 54 #[(0, .int .u8 3), (5, .int .u64 n)]).run Tryz.prog u = .ok (.agg (recFe n).box) u := by kernel_rfl
theorem build_li (n : Nat) (u : World) : (Instr.build 54 #[(0, .int .u8 4), (6, .int .u32 n)]).run Tryz.prog u = .ok (.agg (recLi n).box) u := by kernel_rfl
theorem build_cf (c : CfM) (u : World) : (Instr.build 54 #[(0, .int .u8 5), (7, .agg c.cs.toArray)]).run Tryz.prog u = .ok (.agg (recCf c).box) u := by
  obtain ⟨C, ⟨xA, xc, xl⟩, ⟨yA, yc, yl⟩⟩ := c
  kernel_rfl
theorem build_sl (k : Nat) (x : SlotM) (u : World) : (Instr.build 54 #[(0, .int .u8 1), (1, .int .u8 k), (2, .agg #[.int .u64 x.pc, .int .u8 x.pn, .int .u32 x.pl]), (3, .agg #[.int .u64 x.ac, .int .u8 x.an, .int .u32 x.al]), (4, .agg x.r.cs.toArray)]).run Tryz.prog u = .ok (.agg (recSl k x).box) u := by
  obtain ⟨ha, pc, pn, pl, ac, an, al, ⟨rk, inc, st, ⟨vA, vc, vl⟩, ⟨dA, dc, dl⟩, ⟨oA, oc, ol⟩, la, ⟨mA, mc, ml⟩⟩⟩ := x
  kernel_rfl
def StaM.sb (y : StaM) : Array Value := (slotsL y.f 0 16).toArray
theorem StaM.slots_get (y : StaM) : y.box.extract 0 (0 + 240) = y.sb := by
  unfold StaM.box StaM.L StaM.sb
  have := ext_mid [] (slotsL y.f 0 16) y.tl 0 240 rfl (by rw [slotsL_len])
  simpa using this
theorem StaM.sb_size (y : StaM) : y.sb.size = 240 := by
  unfold StaM.sb
  rw [List.size_toArray, slotsL_len]
theorem StaM.sb_slot (y : StaM) {i : Nat} (h : i < 16) : y.sb.extract (i * 15) (i * 15 + 15) = (y.f i).box := by
  unfold StaM.sb
  have e : 16 = i + (1 + (15 - i)) := by omega
  rw [show slotsL y.f 0 16 = slotsL y.f 0 (i + (1 + (15 - i))) from by rw [← e], slotsL_add, slotsL_add, slotsL_one, Nat.zero_add, ← List.append_assoc]
  rw [ext_mid _ _ _ _ _ (slotsL_len y.f i 0) (y.f i).cs_len, SlotM.cs_box]
theorem slot_ix (y : StaM) {k : Nat} (h : k < 16) (w : World) : (Instr.index 66 (.agg y.sb) (.int .i64 k)).run Tryz.prog w = .ok (.agg (y.f k).box) w := by
  have hk : (0 : Int) ≤ k ∧ (k : Int) < 16 := ⟨by omega, by omega⟩
  have hx := y.sb_slot h
  simp [Instr.index, run_underlying Tryz.underlying66, asIntOf, go_sem, hk]
  rw [if_pos h, hx]

section
variable {P : Program} {w : World} {ops : Array Oper} {rest : List Oper} {o : Oper} {a : Act} {Q : Exit → Act → World → Prop}
theorem bld_known (ty : TypeId) (parts : Array (Nat × Operand)) (ho : o.op = .build ty parts) (hgd : Region.wanted o (yielded ops a.tmps) = true) (vals : Array (Nat × Value)) (hp : (parts.map fun (i, x) => (i, a.eval x)) = vals) {V : Value} (hr : (Instr.build ty vals).run P w = .ok V w) (h : wpList P ops Q rest (a.put o.dst V) w) : wpList P ops Q (o :: rest) a w := by
  subst hp
  exact build_known ty parts ho hgd hr h
theorem cv_known (src dst : TypeId) (x : Operand) (ho : o.op = .convert src dst x) (hgd : Region.wanted o (yielded ops a.tmps) = true) {VX V : Value} (hx : a.eval x = VX) (hr : (convert src dst VX).run P w = .ok V w) (h : wpList P ops Q rest (a.put o.dst V) w) : wpList P ops Q (o :: rest) a w := by
  refine run_known hgd ?_ h
  unfold execOp
  simp only [ho, hx, Sem.run_bind, hr, Result.andThen_ok, Sem.run_pure]
theorem ix_known (ty : TypeId) (x i : Operand) (ho : o.op = .index ty x i) (hgd : Region.wanted o (yielded ops a.tmps) = true) {VX VI V : Value} (hx : a.eval x = VX) (hi : a.eval i = VI) (hr : (Instr.index ty VX VI).run P w = .ok V w) (h : wpList P ops Q rest (a.put o.dst V) w) : wpList P ops Q (o :: rest) a w := by
  refine run_known hgd ?_ h
  unfold execOp
  simp only [ho, hx, hi, Sem.run_bind, hr, Result.andThen_ok, Sem.run_pure]
end

/-- what All gives -/
def AllOut (s : StaM) (w : World) (e : Ending) (w' : World) : Prop := ∃ (y : StaM) (A : Option Addr) (c : Nat), e = .returned (.slice A (allR y).length c) ∧ y.p = s.p ∧ StaM.good w' w'.heap.size y ∧ Sees w' w'.heap.size A (recsL (allR y)) ∧ Below w.heap.size w w'

set_option maxRecDepth 100000 in
set_option maxHeartbeats 6400000 in
theorem All_any (s : StaM) (B : Nat) (w : World) (hs : StaM.good w B s) (hB : B ≤ w.heap.size) : Calls Tryz.prog 23 #[s.v] w (AllOut s w) := by
  have HCL := hide_ (fun (u : World) (h : Below w.heap.size w u) => cloneSt_any s w.heap.size u ((hs.more hB).below h) h.size)
  obtain ⟨R, hR⟩ : ∃ R, AllOut s w = R := ⟨_, rfl⟩
  rw [hR]
  have HFD := hide_ (fun (e : Ending) (w' : World) (y : StaM) (A : Option Addr) (c : Nat) (h1 : e = .returned (.slice A (allR y).length c)) (h2 : y.p = s.p) (h3 : StaM.good w' w'.heap.size y) (h4 : Sees w' w'.heap.size A (recsL (allR y))) (h5 : Below w.heap.size w w') => show R e w' from by rw [← hR]; exact ⟨y, A, c, h1, h2, h3, h4, h5⟩)
  clear hR
  have HV := hide_ (show s.v = .agg s.box from rfl)
  have HSZ := hide_ s.box_size
  obtain ⟨V, hV⟩ : ∃ V, s.v = V := ⟨_, rfl⟩
  rw [hV] at HV ⊢
  simp only [hV] at HCL
  clear hV hs
  go_enter Tryz.func23, Tryz.ntmps23
  go_upto_region 0 with fail
  refine wp_region_lit ?_
  refine box_whole 68 (by rfl) _ (by rfl) (by rfl) HV.out ?_
  intro W0 HX0 HB0 HZ0
  simp only [Act.put, List.setIfInBounds_toArray, List.set_cons_zero, List.set_cons_succ]
  have HZ1 := hide_ HZ0.out
  obtain ⟨z, hz⟩ : ∃ z, w.heap.size = z := ⟨_, rfl⟩
  have HZE := hide_ hz
  rw [hz] at HX0 ⊢
  clear HZ0 hz
  have hzx : z < W0.heap.size := HX0.out.lt
  go_wp2_with (refine load_whole 68 (by rfl) _ (by rfl) sta_size sta_row HX0.out (by rfl) HSZ.out ?_; rw [← HV.out])
  refine (HCL.out _ HB0.out).mono ?_
  rintro en w3 ⟨y, rfl, hyp, hyf, hb3⟩
  have HYP := hide_ hyp
  have HX3 := hide_ (HX0.out.below hb3)
  have HB3 := hide_ (HB0.out.trans (hb3.mono HB0.out.size))
  have HF3 := hide_ (hyf.less (show z + 1 ≤ W0.heap.size + 2 from by have := HZ1.out; have := HZE.out; omega))
  have HYS := hide_ y.box_size
  have HYO := hide_ y.one
  have HYV := hide_ (show y.v = .agg y.box from rfl)
  obtain ⟨VY, hVY⟩ : ∃ V, y.v = V := ⟨_, rfl⟩
  rw [hVY] at HYV ⊢
  clear hVY hyp hyf hb3 HCL HX0 hzx HB0
  have hzx : z < w3.heap.size := HX3.out.lt
  go_upto_region 2 with (refine store_whole 68 (by rfl) _ _ (by rfl) sta_size (by rfl) (by rfl) HYV.out HYS.out HYO.out HX3.out HSZ.out ?_; intro W4 HX4 HG4 HZ4)
  have HB4 := hide_ (HB3.out.grown HG4.out HB3.out.size (fun q hq => by injection hq with hq; have := HZE.out; omega))
  have HY4 := hide_ ((HF3.out.grown HG4.out (fun q hq => by injection hq with hq; omega)).good)
  clear hzx HX3 HF3 HYO HYV HSZ HG4 HZ4 HB3 HV
  obtain ⟨b, hb⟩ : ∃ b, W4.heap.size = b := ⟨_, rfl⟩
  have HBE := hide_ hb
  clear hb
  obtain ⟨fe, hfe⟩ : ∃ n, y.fe = n := ⟨_, rfl⟩
  obtain ⟨li, hli⟩ : ∃ n, y.li = n := ⟨_, rfl⟩
  obtain ⟨mb, hmb⟩ : ∃ x, mayC y.cf.C y.cf.o.l y.cf.n.l = x := ⟨_, rfl⟩
  have HFE := hide_ hfe
  have HLI := hide_ hli
  have HMB := hide_ hmb
  clear hfe hli hmb
  have HCM := hide_ (fun (u : World) (h : Below W4.heap.size W4 u) => show Calls Tryz.prog 59 #[.agg y.cf.cs.toArray] u fun e w' => e = .returned (.bool mb) ∧ Below u.heap.size u w' from by have g := cMay_any y.cf.C y.cf.o y.cf.n W4.heap.size u (HY4.out.cf.below h).2.1 (HY4.out.cf.below h).2.2 h.size; rw [HMB.out] at g; exact g)
  have HCG := hide_ y.cf_get
  have HCN := hide_ (show y.cf.cs.toArray.size = 3 from rfl)
  have HBC := hide_ (fun u => build_cf y.cf u)
  obtain ⟨cc, hcc⟩ : ∃ c, y.cf.cs.toArray = c := ⟨_, rfl⟩
  rw [hcc] at HCG HCN
  simp only [hcc] at HCM HBC
  clear hcc
  have HSG := hide_ y.slots_get
  have HSN := hide_ y.sb_size
  have HIX := hide_ (fun (k : Nat) (h : k < 16) (u : World) => slot_ix y h u)
  obtain ⟨sb, hsb⟩ : ∃ c, y.sb = c := ⟨_, rfl⟩
  rw [hsb] at HSG HSN
  simp only [hsb] at HIX
  clear hsb
  have HX5 := HX4
  have HO5 := hide_ (World.ownsRow_nil W4 b 54 21)
  have HB5 := hide_ (Below.refl b W4)
  go_upto_region 3 with fail
  have r0 := (HX5.out.cell 240).trans y.cell_fe
  rw [HFE.out] at r0
  have f0 := HX5.out.free9 240
  have hzx : z < W4.heap.size := HX5.out.lt
  go_upto_if 10 with fail
  clear r0 f0 hzx
  go_cut [3] (fun q wx => ∃ (A : Option Addr) (c : Nat), q = .slice A (feL y).length c ∧ Hid (wx.ownsRow b 54 21 (.slice A (feL y).length c) (feL y).length (recsL (feL y))) ∧ Hid (Below b W4 wx))
  case first =>
    have r0 := (HX5.out.cell 240).trans y.cell_fe
    rw [HFE.out] at r0
    have f0 := HX5.out.free9 240
    have hzx : z < W4.heap.size := HX5.out.lt
    by_cases h0 : fe = 0
    · subst h0
      go_wp2_with fail
      go_meet
      have e : feL y = [] := by simp [feL, HFE.out]
      exact ⟨none, 0, by rw [e]; rfl, by rw [e]; exact HO5, HB5⟩
    · have e : feL y = [] ++ [recFe fe] := by simp [feL, HFE.out, h0]
      have HEQ := hide_ e
      have hd1 : (fe != 0) = true := by simpa using h0
      have hd2 : ((fe : Int) != 0) = true := by simpa using h0
      clear e
      have HSE := hide_ (sees_box W4 (recFe fe).box 54 (recsL [recFe fe]) (recsL_box _))
      have HOA := hide_ (HO5.out.alloc (.cells (recFe fe).box 54))
      have HSB := hide_ (show b ≤ W4.heap.size from by have := HB5.out.size; have := HBE.out; omega)
      have HLB := hide_ (show 0 + 1 ≤ 1000000 from by have := feL_len y; have := flL_len y; have := headR_len y; omega)
      go_wp2_with (first | (refine bld_known 54 _ (by rfl) (by rfl) #[(0, .int .u8 3), (5, .int .u64 fe)] (by kernel_rfl) (build_fe fe _) ?_) | (refine bslice_known 56 1 _ (by rfl) (by rfl) #[(0, Value.agg (recFe fe).box)] (by kernel_rfl) (bslice_rec _ _) ?_) | (at_builtin; refine wpList_append_cells _ rfl _ _ 56 rfl b 54 _ 21 240 recs_info rfl (by omega) Tryz.underlying56 _ 0 (recsL ([])) rfl HOA.out (W4.heap.size + 1) (some ⟨W4.heap.size, 0, none⟩) 1 1 (recsL [recFe fe]) rfl (by rw [recsL_len]; rfl) HSE.out (recsL_one' _) (by have := HLB.out; omega) (by omega) (by have := HSB.out; simp; omega) (0 + 1) rfl (recsL ([] ++ [recFe fe])) (recsL_one _ _) ?_; intro A2 c2 w7 hown hb7))
      go_meet
      have e := HEQ.out
      exact ⟨A2, c2, by rw [e]; rfl, by rw [e]; exact hide_ hown, hide_ (HB5.out.trans (((Below.refl _ _).alloc HSB.out _).trans hb7))⟩
  case rest =>
  clear HO5 HB5 HX5
  obtain ⟨A1, c1, rfl, HO5, HB5⟩ := hcut
  have HX5 := hide_ (HX4.out.below (show Below W4.heap.size W4 wc from by rw [HBE.out]; exact HB5.out))
  have r0 := (HX5.out.cell 241).trans y.cell_li
  rw [HLI.out] at r0
  have f0 := HX5.out.free9 241
  have hzx : z < wc.heap.size := HX5.out.lt
  go_upto_if 19 with fail
  clear r0 f0 hzx
  go_cut [3] (fun q wx => ∃ (A : Option Addr) (c : Nat), q = .slice A (flL y).length c ∧ Hid (wx.ownsRow b 54 21 (.slice A (flL y).length c) (flL y).length (recsL (flL y))) ∧ Hid (Below b W4 wx))
  case first =>
    have r0 := (HX5.out.cell 241).trans y.cell_li
    rw [HLI.out] at r0
    have f0 := HX5.out.free9 241
    have hzx : z < wc.heap.size := HX5.out.lt
    by_cases h0 : li = 0
    · subst h0
      go_wp2_with fail
      go_meet
      have e : flL y = feL y := by simp [flL, liL, HLI.out]
      exact ⟨A1, c1, by rw [e], by rw [e]; exact HO5, HB5⟩
    · have e : flL y = feL y ++ [recLi li] := by simp [flL, liL, HLI.out, h0]
      have HEQ := hide_ e
      have hd1 : (li != 0) = true := by simpa using h0
      have hd2 : ((li : Int) != 0) = true := by simpa using h0
      clear e
      have HSE := hide_ (sees_box wc (recLi li).box 54 (recsL [recLi li]) (recsL_box _))
      have HOA := hide_ (HO5.out.alloc (.cells (recLi li).box 54))
      have HSB := hide_ (show b ≤ wc.heap.size from by have := HB5.out.size; have := HBE.out; omega)
      have HLB := hide_ (show (feL y).length + 1 ≤ 1000000 from by have := feL_len y; have := flL_len y; have := headR_len y; omega)
      go_wp2_with (first | (refine bld_known 54 _ (by rfl) (by rfl) #[(0, .int .u8 4), (6, .int .u32 li)] (by kernel_rfl) (build_li li _) ?_) | (refine bslice_known 56 1 _ (by rfl) (by rfl) #[(0, Value.agg (recLi li).box)] (by kernel_rfl) (bslice_rec _ _) ?_) | (at_builtin; refine wpList_append_cells _ rfl _ _ 56 rfl b 54 _ 21 240 recs_info rfl (by omega) Tryz.underlying56 _ (feL y).length (recsL (feL y)) rfl HOA.out (wc.heap.size + 1) (some ⟨wc.heap.size, 0, none⟩) 1 1 (recsL [recLi li]) rfl (by rw [recsL_len]; rfl) HSE.out (recsL_one' _) (by have := HLB.out; omega) (by omega) (by have := HSB.out; simp; omega) ((feL y).length + 1) rfl (recsL (feL y ++ [recLi li])) (recsL_one _ _) ?_; intro A2 c2 w7 hown hb7))
      go_meet
      have e := HEQ.out
      exact ⟨A2, c2, by rw [e, List.length_append, List.length_singleton], by rw [e, List.length_append, List.length_singleton]; exact hide_ hown, hide_ (HB5.out.trans (((Below.refl _ _).alloc HSB.out _).trans hb7))⟩
  case rest =>
  clear HO5 HB5 HX5
  obtain ⟨A1, c1, rfl, HO5, HB5⟩ := hcut
  have HX5 := hide_ (HX4.out.below (show Below W4.heap.size W4 wc from by rw [HBE.out]; exact HB5.out))
  have hzx : z < wc.heap.size := HX5.out.lt
  go_wp2_with (refine load_part 52 (by rfl) _ (by rfl) conf_size conf_row HX5.out (by rfl) HCG.out HCN.out ?_)
  refine (HCM.out _ (show Below W4.heap.size W4 wc from by rw [HBE.out]; exact HB5.out)).mono ?_
  rintro en w8 ⟨rfl, hb8⟩
  have HO8 := hide_ (own_below HO5.out hb8)
  have HX8 := hide_ (HX5.out.below hb8)
  have HB8 := hide_ (HB5.out.trans (hb8.mono (by have := HB5.out.size; have := HBE.out; omega)))
  clear hb8 hzx HO5 HX5 HB5 HCM
  obtain ⟨HO5, HX5, HB5⟩ := (⟨HO8, HX8, HB8⟩ : _ ∧ _ ∧ _)
  go_upto_if 28 with fail
  go_cut [3] (fun q wx => ∃ (A : Option Addr) (c : Nat), q = .slice A (headR y).length c ∧ Hid (wx.ownsRow b 54 21 (.slice A (headR y).length c) (headR y).length (recsL (headR y))) ∧ Hid (Below b W4 wx))
  case first =>
    cases mb with
    | false =>
      go_wp2_with fail
      go_meet
      have e : headR y = flL y := by simp [headR, cfL, HMB.out]
      exact ⟨A1, c1, by rw [e], by rw [e]; exact HO5, HB5⟩
    | true =>
      have HEQ := hide_ (show headR y = flL y ++ [recCf y.cf] from by simp [headR, cfL, HMB.out])
      have HSE := hide_ (sees_box w8 (recCf y.cf).box 54 (recsL [recCf y.cf]) (recsL_box _))
      have HOA := hide_ (HO5.out.alloc (.cells (recCf y.cf).box 54))
      have HSB := hide_ (show b ≤ w8.heap.size from by have := HB5.out.size; have := HBE.out; omega)
      have HLB := hide_ (show (flL y).length + 1 ≤ 1000000 from by have := feL_len y; have := flL_len y; have := headR_len y; omega)
      have hzx : z < w8.heap.size := HX5.out.lt
      go_wp2_with (first | (refine load_part 52 (by rfl) _ (by rfl) conf_size conf_row HX5.out (by rfl) HCG.out HCN.out ?_) | (refine bld_known 54 _ (by rfl) (by rfl) #[(0, .int .u8 5), (7, .agg cc)] (by kernel_rfl) (HBC.out _) ?_) | (refine bslice_known 56 1 _ (by rfl) (by rfl) #[(0, Value.agg (recCf y.cf).box)] (by kernel_rfl) (bslice_rec _ _) ?_) | (at_builtin; refine wpList_append_cells _ rfl _ _ 56 rfl b 54 _ 21 240 recs_info rfl (by omega) Tryz.underlying56 _ (flL y).length (recsL (flL y)) rfl HOA.out (w8.heap.size + 1) (some ⟨w8.heap.size, 0, none⟩) 1 1 (recsL [recCf y.cf]) rfl (by rw [recsL_len]; rfl) HSE.out (recsL_one' _) (by have := HLB.out; omega) (by omega) (by have := HSB.out; simp; omega) ((flL y).length + 1) rfl (recsL (flL y ++ [recCf y.cf])) (recsL_one _ _) ?_; intro A2 c2 w7 hown hb7))
      go_meet
      have e := HEQ.out
      exact ⟨A2, c2, by rw [e, List.length_append, List.length_singleton], by rw [e, List.length_append, List.length_singleton]; exact hide_ hown, hide_ (HB5.out.trans (((Below.refl _ _).alloc HSB.out _).trans hb7))⟩
  case rest =>
  clear HO5 HB5 HX5
  obtain ⟨A1, c1, rfl, HO5, HB5⟩ := hcut
  have HX5 := hide_ (HX4.out.below (show Below W4.heap.size W4 wc from by rw [HBE.out]; exact HB5.out))
  rw [← upR_zero y] at HO5
  have hup := congrArg List.length (upR_zero y)
  have HL0 := hide_ hup.symm
  clear hup
  have hzx : z < wc.heap.size := HX5.out.lt
  go_upto_region 10 with (refine load_part 66 (by rfl) _ (by rfl) slots_size slots_row HX5.out (by rfl) HSG.out HSN.out ?_)
  clear hzx
  rw [HL0.out]
  go_loopw [3, 37] (fun q i wr => ∃ (k : Nat) (A : Option Addr) (c : Nat), k ≤ 16 ∧ i = .int .i64 k ∧ q = .slice A (upR y k).length c ∧ Hid (wr.ownsRow b 54 21 (.slice A (upR y k).length c) (upR y k).length (recsL (upR y k))) ∧ Hid (Below b W4 wr)) (fun _ i _ => 16 - (intOf i).toNat)
  case atStart => exact ⟨0, A1, c1, by omega, rfl, rfl, HO5, HB5⟩
  case round =>
    obtain ⟨k, A, c, hk, rfl, rfl, HO, HB⟩ := hrel
    by_cases hlt : k < 16
    case neg =>
      have hkn : k = 16 := by omega
      subst hkn
      go_wp2
      have hbs := HB.out.size
      have hbe := HBE.out
      have hb4 := HB4.out.size
      refine HFD.out _ _ y A c rfl HYP.out ((HY4.out.below (show Below W4.heap.size W4 wr from by rw [hbe]; exact HB.out)).more (by omega)) (Sees.ownRow9 HO.out) (HB4.out.trans (HB.out.mono (by omega)))
    case pos =>
      obtain ⟨hx, hhx⟩ : ∃ x, (y.f k).ha = x := ⟨_, rfl⟩
      have HHA := hide_ hhx
      clear hhx
      have HON := hide_ (show (y.f k).box.all (·.oneCell') = true from by simp [SlotM.box, Value.oneCell'])
      have HIK := hide_ (fun (u : World) => HIX.out k hlt u)
      have HCV := hide_ (fun (u : World) => conv_key hlt u)
      have HUL := hide_ (upR_len y k)
      go_upto_region 12 with (first | (refine ix_known 66 _ _ (by rfl) (by rfl) (by rfl) (by rfl) (HIK.out _) ?_) | (refine alloc_whole 65 (by rfl) (by rfl) slot_zero ?_; intro W5 HY5 HB5a HZ5) | (refine store_whole 65 (by rfl) _ _ (by rfl) slot_size (by rfl) (by rfl) (cs := (y.f k).box) rfl (by rfl) HON.out HY5.out (by rfl) ?_; intro W6 HY6 HG6 HZ6))
      have HBW := hide_ (show Below wr.heap.size wr W6 from (Below.refl _ _).grown (grown_join (grown_below (World.grownBy.refl wr (some wr.heap.size)) HB5a.out) HG6.out) (Nat.le_refl _) (fun q hq => by injection hq with hq; omega))
      have HO6 := hide_ (own_below HO.out HBW.out)
      have HB6 := hide_ (HB.out.trans (HBW.out.mono (show b ≤ wr.heap.size from by have := HB.out.size; have := HBE.out; omega)))
      obtain ⟨gk, hgk⟩ : ∃ g, wr.heap.size = g := ⟨_, rfl⟩
      rw [hgk] at HY6 ⊢
      clear hgk HY5 HB5a HZ5 HG6 HZ6 HO HB HBW HON
      have r0 := (HY6.out.cell 0).trans (show (y.f k).box[0]? = some (.bool (y.f k).ha) from rfl)
      rw [HHA.out] at r0
      have f0 := HY6.out.free9 0
      have hzx : gk < W6.heap.size := HY6.out.lt
      cases hx with
      | false =>
        have HUP := hide_ (upR_no HHA.out)
        go_wp2_with fail
        go_roundw
        case rel => exact ⟨k + 1, A, c, by omega, by go_num, by rw [HUP.out], by rw [HUP.out]; exact HO6, HB6⟩
        case measure => simp [intOf]; omega
      | true =>
        have HUP := hide_ (upR_yes HHA.out)
        have HM1 := hide_ (show (y.f k).box.extract 1 (1 + 3) = #[.int .u64 (y.f k).pc, .int .u8 (y.f k).pn, .int .u32 (y.f k).pl] from rfl)
        have HM2 := hide_ (show (y.f k).box.extract 4 (4 + 3) = #[.int .u64 (y.f k).ac, .int .u8 (y.f k).an, .int .u32 (y.f k).al] from rfl)
        have HM3 := hide_ (show (y.f k).box.extract 7 (7 + 8) = (y.f k).r.cs.toArray from rfl)
        have HM4 := hide_ (show (y.f k).r.cs.toArray.size = 8 from rfl)
        have HBD := hide_ (fun (u : World) => build_sl k (y.f k) u)
        obtain ⟨rc, hrc⟩ : ∃ c, (y.f k).r.cs.toArray = c := ⟨_, rfl⟩
        rw [hrc] at HM3 HM4
        simp only [hrc] at HBD
        clear hrc
        have HSE := hide_ (sees_box W6 (recSl k (y.f k)).box 54 (recsL [recSl k (y.f k)]) (recsL_box _))
        have HOA := hide_ (HO6.out.alloc (.cells (recSl k (y.f k)).box 54))
        have HSB := hide_ (show b ≤ W6.heap.size from by have := HB6.out.size; have := HBE.out; omega)
        have HLB := hide_ (show (upR y k).length + 1 ≤ 1000000 from by have := HUL.out; omega)
        go_upto_region 14 with (first | (refine cv_known 3 5 _ (by rfl) (by rfl) (by rfl) (HCV.out _) ?_) | (refine load_part 49 (by rfl) _ (by rfl) bal_size bal_row HY6.out (i := 1) (by rfl) HM1.out (by rfl) ?_) | (refine load_part 49 (by rfl) _ (by rfl) bal_size bal_row HY6.out (i := 4) (by rfl) HM2.out (by rfl) ?_) | (refine load_part 31 (by rfl) _ (by rfl) regs_size reg_row HY6.out (i := 7) (by rfl) HM3.out HM4.out ?_) | (refine bld_known 54 _ (by rfl) (by rfl) #[(0, .int .u8 1), (1, .int .u8 k), (2, .agg #[.int .u64 (y.f k).pc, .int .u8 (y.f k).pn, .int .u32 (y.f k).pl]), (3, .agg #[.int .u64 (y.f k).ac, .int .u8 (y.f k).an, .int .u32 (y.f k).al]), (4, .agg rc)] (by kernel_rfl) (HBD.out _) ?_) | (refine bslice_known 56 1 _ (by rfl) (by rfl) #[(0, Value.agg (recSl k (y.f k)).box)] (by kernel_rfl) (bslice_rec _ _) ?_) | (at_builtin; refine wpList_append_cells _ rfl _ _ 56 rfl b 54 _ 21 240 recs_info rfl (by omega) Tryz.underlying56 _ (upR y k).length (recsL (upR y k)) rfl HOA.out (W6.heap.size + 1) (some ⟨W6.heap.size, 0, none⟩) 1 1 (recsL [recSl k (y.f k)]) rfl (by rw [recsL_len]; rfl) HSE.out (recsL_one' _) (by have := HLB.out; omega) (by omega) (by have := HSB.out; simp; omega) ((upR y k).length + 1) rfl (recsL (upR y k ++ [recSl k (y.f k)])) (recsL_one _ _) ?_; intro A2 c2 w7 hown hb7))
        go_wp2_with fail
        go_roundw
        case rel => exact ⟨k + 1, A2, c2, by omega, by go_num, by rw [HUP.out, List.length_append, List.length_singleton], by rw [HUP.out, List.length_append, List.length_singleton]; exact hide_ hown, hide_ (HB6.out.trans (((Below.refl _ _).alloc HSB.out _).trans hb7))⟩
        case measure => simp [intOf]; omega
end Go.Proofs.YtecbpmnolgkllaaGreat

/-
  What is known behind records, and all its records: each may be, and folded they are that again.
-/
namespace Go.Proofs.YtecbpmnolgkllaaGreat
open Go.RowKit

def pFe (n : Nat) : RecP := { zeroRP with ki := 3, fe := n }
def pLi (n : Nat) : RecP := { zeroRP with ki := 4, li := n }
def pCf (c : CfP) : RecP := { zeroRP with ki := 5, cf := c }
def pSl (k : Nat) (x : SlotP) : RecP := ⟨1, k, x.pc, x.pn, x.pl, x.ac, x.an, x.al, x.r, 0, 0, (0, [], [])⟩
/-- what holds of all that is known behind records -/
structure Inv14 (s : StaP) : Prop where
  sl : ∀ i, i < 16 → (s.f i).ha = true → mayR (pSl i (s.f i)) = true
  no : ∀ i, (s.f i).ha = false → s.f i = zeroSP
  hi : ∀ i, 16 ≤ i → s.f i = zeroSP
  cf : mayC s.cf.1 s.cf.2.1 s.cf.2.2 = true ∨ s.cf = (0, [], [])
theorem inv14_zero : Inv14 zeroSTP := ⟨fun _ _ h => (by cases h), fun _ _ => rfl, fun _ _ => rfl, .inr rfl⟩
theorem mayR_named {p : RecP} (h : mayR p = true) : p = namedP p := by
  unfold mayR at h
  rw [Bool.and_eq_true] at h
  exact of_decide_eq_true h.1
theorem mayR_slot {p : RecP} (h : mayR p = true) (hk : p.ki = 1) : pSl p.ke (slotOfP p) = p := by
  have e := mayR_named h
  rw [namedP, if_pos hk] at e
  rw [e]
  obtain ⟨ki, ke, pc, pn, pl, ac, an, al, r, fe, li, cf⟩ := p
  simp only at hk
  subst hk
  rfl
theorem mayR_cf {p : RecP} (h : mayR p = true) (hk : p.ki = 5) : mayC p.cf.1 p.cf.2.1 p.cf.2.2 = true := by
  unfold mayR tellR at h
  rw [Bool.and_eq_true, if_neg (by omega), if_neg (by omega), if_neg (by omega), if_neg (by omega), if_pos hk] at h
  exact h.2
theorem inv14_fold {s : StaP} (hs : Inv14 s) (p : RecP) : Inv14 (foldP s p) := by
  unfold foldP
  by_cases hy : mayR p = true
  · rw [if_pos hy]
    unfold doP
    split
    · rename_i hk
      have h16 := mayR_key hy (.inl hk)
      refine ⟨fun i hi hh => ?_, fun i hh => ?_, fun i hi => ?_, hs.cf⟩
      · by_cases e : i = p.ke
        · subst e
          rw [show (s.setF p.ke (slotOfP p)).f p.ke = slotOfP p from if_pos rfl, mayR_slot hy hk]
          exact hy
        · have e2 : (s.setF p.ke (slotOfP p)).f i = s.f i := if_neg e
          rw [e2] at hh ⊢
          exact hs.sl i hi hh
      · by_cases e : i = p.ke
        · subst e
          rw [show (s.setF p.ke (slotOfP p)).f p.ke = slotOfP p from if_pos rfl] at hh
          cases hh
        · have e2 : (s.setF p.ke (slotOfP p)).f i = s.f i := if_neg e
          rw [e2] at hh ⊢
          exact hs.no i hh
      · rw [show (s.setF p.ke (slotOfP p)).f i = s.f i from if_neg (by omega)]
        exact hs.hi i hi
    split
    · refine ⟨fun i hi hh => ?_, fun i hh => ?_, fun i hi => ?_, hs.cf⟩
      · by_cases e : i = p.ke
        · subst e
          rw [show (s.setF p.ke zeroSP).f p.ke = zeroSP from if_pos rfl] at hh
          cases hh
        · have e2 : (s.setF p.ke zeroSP).f i = s.f i := if_neg e
          rw [e2] at hh ⊢
          exact hs.sl i hi hh
      · by_cases e : i = p.ke
        · subst e
          exact if_pos rfl
        · have e2 : (s.setF p.ke zeroSP).f i = s.f i := if_neg e
          rw [e2] at hh ⊢
          exact hs.no i hh
      · by_cases e : i = p.ke
        · subst e
          exact if_pos rfl
        · rw [show (s.setF p.ke zeroSP).f i = s.f i from if_neg e]
          exact hs.hi i hi
    split
    · exact ⟨hs.sl, hs.no, hs.hi, hs.cf⟩
    split
    · exact ⟨hs.sl, hs.no, hs.hi, hs.cf⟩
    split
    · rename_i hk
      exact ⟨hs.sl, hs.no, hs.hi, .inl (mayR_cf hy hk)⟩
    · exact hs
  · rw [if_neg hy]
    exact hs
theorem inv14_folds (l : List RecP) : Inv14 (foldsP l) := by
  unfold foldsP
  have : ∀ (l : List RecP) (s : StaP), Inv14 s → Inv14 (l.foldl foldP s) := by
    intro l
    induction l with
    | nil => exact fun s h => h
    | cons p l ih => exact fun s h => ih _ (inv14_fold h p)
  exact this l _ inv14_zero

theorem may_fe {n : Nat} (h : ¬ n = 0) : mayR (pFe n) = true := by
  unfold mayR tellR
  rw [Bool.and_eq_true]
  exact ⟨decide_eq_true rfl, show decide (0 < n) = true from decide_eq_true (by omega)⟩
theorem may_li {n : Nat} (h : ¬ n = 0) : mayR (pLi n) = true := by
  unfold mayR tellR
  rw [Bool.and_eq_true]
  exact ⟨decide_eq_true rfl, show decide (0 < n) = true from decide_eq_true (by omega)⟩
theorem may_cf {c : CfP} (h : mayC c.1 c.2.1 c.2.2 = true) : mayR (pCf c) = true := by
  unfold mayR tellR
  rw [Bool.and_eq_true]
  exact ⟨decide_eq_true rfl, h⟩
def feP (s : StaP) : List RecP := if s.fe = 0 then [] else [pFe s.fe]
def liP (s : StaP) : List RecP := if s.li = 0 then [] else [pLi s.li]
def cfP14 (s : StaP) : List RecP := if mayC s.cf.1 s.cf.2.1 s.cf.2.2 = true then [pCf s.cf] else []
def slP (s : StaP) (k : Nat) : List RecP := (List.range k).flatMap fun i => if (s.f i).ha = true then [pSl i (s.f i)] else []
def upP (s : StaP) (k : Nat) : List RecP := feP s ++ liP s ++ cfP14 s ++ slP s k
theorem upP_of (y : StaM) (k : Nat) : (upR y k).map RecM.p = upP y.p k := by
  unfold upR headR flL upP
  simp only [List.map_append]
  congr 1
  · congr 1
    · congr 1
      · unfold feL feP
        show _ = if y.fe = 0 then _ else _
        split <;> rfl
      · unfold liL liP
        show _ = if y.li = 0 then _ else _
        split <;> rfl
    · unfold cfL cfP14
      show _ = if mayC y.cf.C y.cf.o.l y.cf.n.l = true then _ else _
      split <;> rfl
  · unfold slL slP
    rw [List.map_flatMap]
    congr 1
    funext i
    show _ = if (y.f i).ha = true then _ else _
    split <;> rfl
theorem upP_may {s : StaP} (hs : Inv14 s) {k : Nat} (hk : k ≤ 16) : ∀ p ∈ upP s k, mayR p = true := by
  intro p hp
  unfold upP at hp
  simp only [List.mem_append] at hp
  rcases hp with ((h | h) | h) | h
  · unfold feP at h
    split at h
    · cases h
    · rename_i h0
      rw [List.mem_singleton.1 h]
      exact may_fe h0
  · unfold liP at h
    split at h
    · cases h
    · rename_i h0
      rw [List.mem_singleton.1 h]
      exact may_li h0
  · unfold cfP14 at h
    split at h
    · rename_i h0
      rw [List.mem_singleton.1 h]
      exact may_cf h0
    · cases h
  · unfold slP at h
    obtain ⟨i, hi, hm⟩ := List.mem_flatMap.1 h
    rw [List.mem_range] at hi
    split at hm
    · rename_i h0
      rw [List.mem_singleton.1 hm]
      exact hs.sl i (by omega) h0
    · cases hm
theorem fold_sl {s : StaP} (hs : Inv14 s) : ∀ (k : Nat) (_ : k ≤ 16) (t : StaP) (_ : ∀ i, t.f i = zeroSP), (slP s k).foldl foldP t = { t with f := fun i => if i < k then s.f i else zeroSP }
  | 0, _, t, ht => by
    show t = _
    obtain ⟨f, fe, li, cf⟩ := t
    simp only at ht
    congr 1
    funext i
    rw [ht i, if_neg (by omega)]
  | k + 1, hk, t, ht => by
    have ih := fold_sl hs k (by omega) t ht
    have e : slP s (k + 1) = slP s k ++ (if (s.f k).ha = true then [pSl k (s.f k)] else []) := by
      unfold slP
      rw [List.range_succ, List.flatMap_append, List.flatMap_singleton]
    rw [e, List.foldl_append, ih]
    by_cases h : (s.f k).ha = true
    · rw [if_pos h, List.foldl_cons, List.foldl_nil, foldP, if_pos (hs.sl k (by omega) h), doP, if_pos (show (pSl k (s.f k)).ki = 1 from rfl)]
      unfold StaP.setF
      simp only
      congr 1
      funext i
      by_cases hi : i = k
      · subst hi
        rw [show (pSl i (s.f i)).ke = i from rfl, if_pos rfl, if_pos (by omega)]
        generalize s.f i = x at h ⊢
        obtain ⟨ha, pc, pn, pl, ac, an, al, r⟩ := x
        simp only at h
        subst h
        rfl
      · rw [show (pSl k (s.f k)).ke = k from rfl, if_neg hi]
        by_cases h2 : i < k
        · rw [if_pos h2, if_pos (by omega)]
        · rw [if_neg h2, if_neg (by omega)]
    · rw [if_neg h, List.foldl_nil]
      congr 1
      funext i
      by_cases hi : i = k
      · subst hi
        rw [if_neg (by omega), if_pos (by omega), hs.no i (by simpa using h)]
      · by_cases h2 : i < k
        · rw [if_pos h2, if_pos (by omega)]
        · rw [if_neg h2, if_neg (by omega)]
theorem fold_all {s : StaP} (hs : Inv14 s) : foldsP (upP s 16) = s := by
  unfold foldsP upP
  rw [List.foldl_append, List.foldl_append, List.foldl_append]
  have e1 : (feP s).foldl foldP zeroSTP = { zeroSTP with fe := s.fe } := by
    unfold feP
    split
    · rename_i h
      rw [h]
      rfl
    · rename_i h
      rw [List.foldl_cons, List.foldl_nil, foldP, if_pos (may_fe h)]
      show ({ zeroSTP with fe := max 0 s.fe } : StaP) = _
      rw [Nat.zero_max]
  have e2 : (liP s).foldl foldP { zeroSTP with fe := s.fe } = { zeroSTP with fe := s.fe, li := s.li } := by
    unfold liP
    split
    · rename_i h
      rw [h]
      rfl
    · rename_i h
      rw [List.foldl_cons, List.foldl_nil, foldP, if_pos (may_li h)]
      rfl
  have e3 : (cfP14 s).foldl foldP { zeroSTP with fe := s.fe, li := s.li } = { zeroSTP with fe := s.fe, li := s.li, cf := s.cf } := by
    unfold cfP14
    split
    · rename_i h
      rw [List.foldl_cons, List.foldl_nil, foldP, if_pos (may_cf h)]
      rfl
    · rename_i h
      rcases hs.cf with h2 | h2
      · exact absurd h2 h
      · rw [h2]
        rfl
  rw [e1, e2, e3, fold_sl hs 16 (Nat.le_refl _) _ (fun _ => rfl)]
  obtain ⟨f, fe, li, cf⟩ := s
  congr 1
  funext i
  by_cases hi : i < 16
  · exact if_pos hi
  · exact (if_neg hi).trans (hs.hi i (by omega)).symm
/-- the keys of the slots' records rise -/
theorem slP_rise (s : StaP) : ∀ (k : Nat), (∀ p ∈ slP s k, p.ke < k ∧ p.ki = 1) ∧ List.Pairwise (fun a b => a.ke < b.ke) (slP s k)
  | 0 => ⟨fun p hp => (by cases hp), List.Pairwise.nil⟩
  | k + 1 => by
    obtain ⟨h1, h2⟩ := slP_rise s k
    have e : slP s (k + 1) = slP s k ++ (if (s.f k).ha = true then [pSl k (s.f k)] else []) := by
      unfold slP
      rw [List.range_succ, List.flatMap_append, List.flatMap_singleton]
    rw [e]
    split
    · refine ⟨fun p hp => ?_, ?_⟩
      · rcases List.mem_append.1 hp with h | h
        · exact ⟨by have := (h1 p h).1; omega, (h1 p h).2⟩
        · rw [List.mem_singleton.1 h]
          exact ⟨Nat.lt_succ_self k, rfl⟩
      · rw [List.pairwise_append]
        refine ⟨h2, List.pairwise_singleton _ _, fun a ha b hb => ?_⟩
        rw [List.mem_singleton.1 hb]
        exact (h1 a ha).1
    · rw [List.append_nil]
      exact ⟨fun p hp => ⟨by have := (h1 p hp).1; omega, (h1 p hp).2⟩, h2⟩
end Go.Proofs.YtecbpmnolgkllaaGreat
