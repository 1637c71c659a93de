/-
  Contract of table's Fire.
-/
import Derived.Test.YtkjgplcfoihohaaFire
namespace Go.Proofs.Ytkjgplcfoihohaa
open Go.RowKit

/-- what Fire leaves -/
def Fires (r : Int × List Int × List (Int × Int × Int) × Int) (w : World) (e : Ending) (w' : World) : Prop :=
  ∃ A c A2 c2, e = .returned (.tuple #[.int .i64 r.1, .slice A r.2.1.length c, .slice A2 r.2.2.1.length c2, .int .i64 r.2.2.2]) ∧ w'.ownsRow w.heap.size 2 1 (.slice A r.2.1.length c) r.2.1.length (iv r.2.1) ∧
    w'.ownsRow w.heap.size 71 4 (.slice A2 r.2.2.1.length c2) r.2.2.1.length (cv r.2.2.1) ∧ Below w.heap.size w w'
theorem Fires.none {R : Int × List Int × List (Int × Int × Int) × Int} {e : Int} {w w' : World} (h : R = (0, [], [], e)) (hb : Below w.heap.size w w') : Fires R w (.returned (.tuple #[.int .i64 0, .slice none 0 0, .slice none 0 0, .int .i64 e])) w' := by
  subst h
  exact ⟨_, _, _, _, rfl, World.ownsRow_nil _ _ _ _, World.ownsRow_nil _ _ _ _, hb⟩

set_option maxRecDepth 100000 in
set_option maxHeartbeats 1600000 in
theorem Fire_any (st vs : Int) (t : Sl RuM) (sa ac pa : Int) (vars : List Int) (V : Option Addr) (m k : Nat) (arg : Int) (B : Nat) (w : World) (hm : vars.length = m) (hs : rusOk w B t) (hsv : Sees w B V (iv vars)) (hvi : ∀ v ∈ vars, I64 v) (ha : I64 arg) (hB : B ≤ w.heap.size) :
    Calls Try.prog 15 #[tabV st vs t, .int .i64 sa, .int .i64 ac, .int .i64 pa, .slice V m k, .int .i64 arg] w (Fires (fireR st vs t.l sa ac pa vars arg) w) := by
  have hw1 : Below w.heap.size w (w.alloc (.cells #[.int .i64 st, .int .i64 vs, .slice t.A t.l.length t.c] 24)) := (Below.refl _ _).alloc (Nat.le_refl _) _
  have HC := hide_ (mayFire_any st vs t B _ vars V m k hm (rus_stable.below hs (hw1.mono hB)) (Nat.le_trans hB hw1.size))
  have HD := hide_ (fun (wr : World) (hb : Below w.heap.size w wr) => taken_any t sa ac pa vars V m k arg B wr hm (rus_stable.below hs (hb.mono hB)) (hsv.below (hb.mono hB)) hvi ha (Nat.le_trans hB hb.size))
  have HW := hide_ hw1
  have HS := hide_ hs
  have HSV := hide_ hsv
  have HVI := hide_ hvi
  have HA := hide_ ha
  have HM := hide_ hm
  obtain ⟨q, hq⟩ : ∃ q, fireB st vs t.l vars = q := ⟨_, rfl⟩
  have HQ := hide_ hq
  rw [hq] at HC
  obtain ⟨R, hR⟩ : ∃ R, fireR st vs t.l sa ac pa vars arg = R := ⟨_, rfl⟩
  have HR := hide_ hR
  rw [hR]
  obtain ⟨tA, tc, tl⟩ := t
  obtain ⟨tn, htn⟩ : ∃ n, tl.length = n := ⟨_, rfl⟩
  have HTN := hide_ htn
  have htm : tn ≤ 9223372036854775807 := by have h1 := hs.1; have h2 := hs.2.1; unfold maxLen at h2; simp only [htn] at h1 h2; omega
  simp only [tabV, Sl.v, htn] at HC HW HD ⊢
  clear hs hw1 hm hsv hvi ha hq hR htn
  go_enter Try.func15, Try.ntmps15
  go_wp2_with fail
  refine HC.out.mono ?_
  rintro en w1 ⟨rfl, hb⟩
  have HB := hide_ (HW.out.trans (hb.mono (by simp)))
  have HC1 := hide_ (bcell hb)
  have hz1 : w.heap.size < w1.heap.size := by have := hb.size; simp at this; omega
  clear hb
  cases q with
  | false =>
    have HR1 := hide_ (show R = (0, [], [], 10) by
      rw [← HR.out]
      unfold fireR
      rw [if_neg (by rw [HQ.out]; simp)])
    go_wp2
    exact bodyPost_ret (v := .tuple #[.int .i64 0, .slice none 0 0, .slice none 0 0, .int .i64 10]) (by simp [results, Try.results15, go_sem]) rfl (Fires.none HR1.out HB.out)
  | true =>
  have hmay : mayT st vs tl = true := by
    have h := HQ.out
    unfold fireB at h
    simp only [Bool.and_eq_true] at h
    exact h.2
  have hms : (m : Int) = vs := by
    have h := HQ.out
    unfold fireB at h
    rw [HM.out] at h
    simp only [Bool.and_eq_true, decide_eq_true_eq] at h
    exact h.1
  have hnum := mayT_num hmay
  have hm8 : m ≤ 8 := by omega
  have HMAY := hide_ hmay
  have HMS := hide_ hms
  clear hmay hms hnum
  obtain ⟨hc, hf⟩ := HC1.out
  cases hi : idxO (takX sa ac pa vars arg tl) tl.length with
  | none =>
    have HT := hide_ (show takI sa ac pa vars arg tl = -1 by unfold takI idxI; rw [hi])
    have HR1 := hide_ (show R = (0, [], [], 13) by
      rw [← HR.out]
      unfold fireR
      rw [if_pos HQ.out, hi])
    clear hi
    go_wp2_with fail
    refine (HD.out _ HB.out).mono ?_
    rw [HT.out]
    rintro en w2 ⟨rfl, hb2⟩
    have HB2 := hide_ (HB.out.trans (hb2.mono HB.out.size))
    clear hb2
    go_wp2
    exact bodyPost_ret (v := .tuple #[.int .i64 0, .slice none 0 0, .slice none 0 0, .int .i64 13]) (by simp [results, Try.results15, go_sem]) rfl (Fires.none HR1.out HB2.out)
  | some j =>
    obtain ⟨hj1, _, _⟩ := idx_some hi
    obtain ⟨x, hx⟩ : ∃ x, tl[j]? = some x := ⟨_, List.getElem?_eq_getElem hj1⟩
    have HT := hide_ (show takI sa ac pa vars arg tl = j by unfold takI idxI; rw [hi])
    have hjn : j < tn := by rw [← HTN.out]; exact hj1
    have HX := hide_ hx
    have HI := hide_ hi
    clear hi hj1
    go_wp2_with fail
    refine (HD.out _ HB.out).mono ?_
    rw [HT.out]
    rintro en w2 ⟨rfl, hb2⟩
    have HB2 := hide_ (HB.out.trans (hb2.mono HB.out.size))
    have hz2 : w1.heap.size ≤ w2.heap.size := hb2.size
    obtain ⟨hc2, hf2⟩ := bcell hb2
    clear hb2
    have hs2 := (rus_stable.below HS.out (HB2.out.mono hB)).2.2.1
    obtain ⟨tb, ot, rfl, hab, e0, e1, e2, e3, e4, e5, e6⟩ := hs2.ru hx
    have hwz : tb < w2.heap.size := by omega
    have hrule := ruB_parts (mayT_rule HMAY.out hx)
    have hxok := (rus_stable.below HS.out (HB2.out.mono hB)).2.2.2 x (List.mem_of_getElem? hx)
    have HXO := hide_ hxok
    have HRU := hide_ hrule
    clear hs2 hx hrule hxok
    obtain ⟨fr, xc, xp, tt, ⟨gA, gc, gl⟩, ⟨sA, sc, sl⟩, ⟨eA, ec, el⟩⟩ := x
    obtain ⟨-, -, hxs, hxe⟩ := HXO.out
    obtain ⟨-, -, -, -, -, hrs, hre⟩ := HRU.out
    simp only at e0 e1 e2 e3 e4 e5 e6 hxs hxe hrs hre
    obtain ⟨gn, hgn⟩ : ∃ n, gl.length = n := ⟨_, rfl⟩
    obtain ⟨sn, hsn⟩ : ∃ n, sl.length = n := ⟨_, rfl⟩
    obtain ⟨ee, hen⟩ : ∃ n, el.length = n := ⟨_, rfl⟩
    rw [hgn] at e4
    rw [hsn] at e5
    rw [hen] at e6
    have hwb := (Below.refl w.heap.size w2).alloc HB2.out.size (.cells #[.int .i64 fr, .int .i64 xc, .int .i64 xp, .int .i64 tt, .slice gA gn gc, .slice sA sn sc, .slice eA ee ec] 40)
    have HBX := hide_ (HB2.out.trans hwb)
    have hset := setAll_any ⟨sA, sc, sl⟩ vars V m k arg B _ HM.out hm8 (sets_stable.below hxs (hwb.mono hB)) (by rw [HMS.out]; exact hrs) (HSV.out.below (HBX.out.mono hB)) HVI.out HA.out (Nat.le_trans hB HBX.out.size)
    have HSET := hide_ hset
    have HEM := hide_ (fun (wr : World) (hb : Below w.heap.size (w2.alloc (.cells #[.int .i64 fr, .int .i64 xc, .int .i64 xp, .int .i64 tt, .slice gA gn gc, .slice sA sn sc, .slice eA ee ec] 40)) wr) =>
      emitAll_any ⟨eA, ec, el⟩ vars V m k arg B wr HM.out (ems_stable.below hxe ((hwb.trans hb).mono hB)) (emsB_len hre) (HSV.out.below ((HBX.out.trans hb).mono hB)) HVI.out HA.out (Nat.le_trans hB (HBX.out.trans hb).size))
    have HR1 := hide_ (show R = fireOut tt (setAllR sl vars arg) (emAllR el vars arg) by
      rw [← HR.out]
      unfold fireR
      rw [if_pos HQ.out, HI.out]
      simp only [HX.out])
    simp only [Sl.v, hsn] at HSET
    simp only [Sl.v, hen] at HEM
    generalize setAllR sl vars arg = ra at HSET HR1
    generalize emAllR el vars arg = rb at HEM HR1
    clear hset hwb hxs hxe hrs hre hgn hsn hen
    have hz2' : w.heap.size < w2.heap.size := by omega
    go_wp2_with fail
    refine HSET.out.mono ?_
    rintro en w3 (⟨a, A3, c3, hra, rfl, ho3, hb3⟩ | ⟨hra, rfl, hb3⟩)
    · have HRA := hide_ hra
      have HO3 := hide_ ho3
      have HB3 := hide_ hb3
      obtain ⟨hc3, hf3⟩ := bcell hb3
      have hz3 : w2.heap.size < w3.heap.size := by have := hb3.size; simp at this; omega
      clear hra ho3 hb3
      go_wp2_with fail
      refine (HEM.out _ (HB3.out.mono (by simp; omega))).mono ?_
      rintro en w4 (⟨b, A4, c4, hrb, rfl, ho4, hb4⟩ | ⟨hrb, rfl, hb4⟩)
      · have HO4 := hide_ ho4
        have HB4 := hide_ hb4
        obtain ⟨hc4, hf4⟩ := bcell hb4
        have HR2 := hide_ (show R = (tt, a, b, 0) by rw [HR1.out, HRA.out, hrb, fireOut_yes])
        clear hrb ho4 hb4
        go_wp2
        refine bodyPost_ret (v := .tuple #[.int .i64 tt, .slice A3 a.length c3, .slice A4 b.length c4, .int .i64 0]) (by simp [results, Try.results15, go_sem]) rfl ?_
        rw [HR2.out]
        exact ⟨A3, c3, A4, c4, rfl, own_mono (own_below HO3.out HB4.out) (by simp; omega), own_mono HO4.out (by omega), (HBX.out.trans (HB3.out.mono (by simp; omega))).trans (HB4.out.mono (by omega))⟩
      · have HB4 := hide_ hb4
        have HR2 := hide_ (show R = (0, [], [], 18) by rw [HR1.out, hrb, fireOut_no2])
        clear hrb hb4
        go_wp2
        exact bodyPost_ret (v := .tuple #[.int .i64 0, .slice none 0 0, .slice none 0 0, .int .i64 18]) (by simp [results, Try.results15, go_sem]) rfl (Fires.none HR2.out ((HBX.out.trans (HB3.out.mono (by simp; omega))).trans (HB4.out.mono (by omega))))
    · have HB3 := hide_ hb3
      obtain ⟨hc3, hf3⟩ := bcell hb3
      have hz3 : w2.heap.size < w3.heap.size := by have := hb3.size; simp at this; omega
      have HR2 := hide_ (show R = (0, [], [], 18) by rw [HR1.out, hra, fireOut_no1])
      clear hra hb3
      go_wp2_with fail
      refine (HEM.out _ (HB3.out.mono (by simp; omega))).mono ?_
      rintro en w4 (⟨b, A4, c4, hrb, rfl, ho4, hb4⟩ | ⟨hrb, rfl, hb4⟩)
      all_goals
        have HB4 := hide_ hb4
        go_wp2
        exact bodyPost_ret (v := .tuple #[.int .i64 0, .slice none 0 0, .slice none 0 0, .int .i64 18]) (by simp [results, Try.results15, go_sem]) rfl (Fires.none HR2.out ((HBX.out.trans (HB3.out.mono (by simp; omega))).trans (HB4.out.mono (by omega))))
end Go.Proofs.Ytkjgplcfoihohaa
