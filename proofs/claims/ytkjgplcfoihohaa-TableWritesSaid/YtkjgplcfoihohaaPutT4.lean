/-
  Contract of table's Put, and the document's example.
-/
import Derived.Test.YtkjgplcfoihohaaPutT3
import Derived.Test.YtkjgplcfoihohaaFindT
namespace Go.Proofs.Ytkjgplcfoihohaa
open Go.RowKit

/-- a contract's bytes, and the error's number -/
def putR (st vs : Int) (l : List RuM) : List UInt8 × Int := if mayT st vs l then (tabBy st vs l, 0) else ([], 10)
/-- what Put leaves -/
def PutsT (r : List UInt8 × Int) (w : World) (e : Ending) (w' : World) : Prop :=
  ∃ A c, e = .returned (.tuple #[.slice A r.1.length c, .int .i64 r.2]) ∧ w'.ownsRow w.heap.size 5 1 (.slice A r.1.length c) r.1.length (bv r.1) ∧ Below w.heap.size w w'

theorem putR_yes {st vs : Int} {l : List RuM} (h : mayT st vs l = true) : putR st vs l = (tabBy st vs l, 0) := by unfold putR; rw [if_pos h]
theorem putR_no {st vs : Int} {l : List RuM} (h : mayT st vs l = false) : putR st vs l = ([], 10) := by unfold putR; rw [h]; rfl
theorem rus_len {w : World} {B : Nat} {st vs : Int} {s : Sl RuM} (hs : rusOk w B s) (h : mayT st vs s.l = true) : ∀ x ∈ s.l, (ruBy x).length ≤ 7000 := by
  intro x hx
  obtain ⟨k, hk, rfl⟩ := List.getElem_of_mem hx
  exact ruBy_len (hs.2.2.2 _ hx) (ruS_of (mayT_rule h (List.getElem?_eq_getElem hk)))
theorem tabBy_len {w : World} {B : Nat} {st vs : Int} {s : Sl RuM} (hs : rusOk w B s) (h : mayT st vs s.l = true) : (tabBy st vs s.l).length ≤ 300000 := by
  have hn := mayT_num h
  have h1 := flat_le (f := ruBy) s.l (rus_len hs h)
  unfold tabBy
  simp only [List.length_append]
  have := natB_len st (by omega)
  have := natB_len vs (by omega)
  have := natB_len s.l.length (by omega)
  omega

set_option maxRecDepth 100000 in
set_option maxHeartbeats 1600000 in
theorem PutT_any (st vs : Int) (t : Sl RuM) (B : Nat) (w : World) (hs : rusOk w B t) (hB : B ≤ w.heap.size) :
    Calls Try.prog 10 #[tabV st vs t] w (PutsT (putR st vs t.l) w) := by
  have hw1 : Below w.heap.size w (w.alloc (.cells #[.int .i64 st, .int .i64 vs, .slice t.A t.l.length t.c] 24)) := (Below.refl _ _).alloc (Nat.le_refl _) _
  have HC := hide_ (MayT_any st vs t B _ (rus_stable.below hs (hw1.mono hB)) (Nat.le_trans hB hw1.size))
  have HX := hide_ (BoxAt.new w #[.int .i64 st, .int .i64 vs, .slice t.A t.l.length t.c] 24)
  have HW := hide_ hw1
  have HS := hide_ hs
  obtain ⟨q, hq⟩ : ∃ q, mayT st vs t.l = q := ⟨_, rfl⟩
  rw [hq] at HC
  cases q with
  | false =>
    rw [putR_no hq]
    clear hs hw1 hq HX
    simp only [tabV, Sl.v] at HC HW ⊢
    obtain ⟨tA, tc, tl⟩ := t
    generalize tl.length = tn at HC HW ⊢
    go_enter Try.func10, Try.ntmps10
    go_wp2_with fail
    refine HC.out.mono ?_
    rintro en w1 ⟨rfl, hb⟩
    have HB := hide_ (HW.out.trans (hb.mono (by simp)))
    clear hb
    go_wp2
    go_ret2
    exact ⟨none, 0, rfl, World.ownsRow_nil _ _ _ _, HB.out⟩
  | true =>
    rw [putR_yes hq]
    have hnum := mayT_num hq
    have hlen := rus_len hs hq
    obtain ⟨tA, tc, tl⟩ := t
    obtain ⟨n, hn⟩ : ∃ n, tl.length = n := ⟨_, rfl⟩
    simp only [hn] at hnum
    have HQ := hide_ hq
    have HN := hide_ hn
    have HL := hide_ hlen
    obtain ⟨r1, hr1⟩ : ∃ r1, natB st ++ (natB vs ++ natB n) = r1 := ⟨_, rfl⟩
    obtain ⟨r, hr⟩ : ∃ r, tabBy st vs tl = r := ⟨_, rfl⟩
    have HR := hide_ (show r1 ++ tl.flatMap ruBy = r by
      rw [← hr, ← hr1]
      unfold tabBy
      rw [hn]
      simp only [List.append_assoc])
    have HR1 := hide_ (show [] ++ numsB [st, vs, (n : Int)] = r1 by rw [numsB3, List.nil_append]; exact hr1)
    have hr1l : r1.length ≤ 30 := by
      rw [← hr1]
      simp only [List.length_append]
      have := natB_len st (by omega)
      have := natB_len vs (by omega)
      have := natB_len n (by omega)
      omega
    rw [hr]
    simp only [tabV, Sl.v, hn] at HC HW HX ⊢
    clear hs hw1 hq hr1 hr hn hlen
    go_enter Try.func10, Try.ntmps10
    go_wp2_with fail
    refine HC.out.mono ?_
    rintro en w1 ⟨rfl, hb⟩
    have HB := hide_ (HW.out.trans (hb.mono (by simp)))
    have HX1 := hide_ (HX.out.below hb)
    clear hb HC
    have hz1 : w.heap.size < w1.heap.size := HX1.out.lt
    have hcx := HX1.out.cell
    have HO := hide_ (World.ownsRow_nil w1 w.heap.size 5 1)
    have HU := hide_ ((Below.refl w1.heap.size w1).alloc (Nat.le_refl _) (.cells #[.int .i64 st, .int .i64 vs, .int .i64 n] 3))
    have HSU := hide_ (sees_nums_z (w := w1) [st, vs, (n : Int)] #[.int .i64 st, .int .i64 vs, .int .i64 n] 3 _ rfl rfl)
    go_wp2_with fail
    refine (putNums_at [] r1 [st, vs, (n : Int)] w.heap.size _ 3 _ w1 _ _ (by simp) HU.out HSU.out (Nat.le_refl _) HR1.out rfl (by omega) (by intro y hy; simp at hy; rcases hy with rfl | rfl | rfl <;> omega) (by simp) HO.out (by omega)).mono ?_
    rintro en w2 ⟨A2, c2, rfl, hst2⟩
    have HX2 := hide_ ((HX1.out.alloc _).step (r0 := []) (by decide) (own_below HO.out HU.out) hst2)
    have HST2 := hide_ (RowStep.fresh HU.out hst2)
    clear hst2 hcx
    have hz2 : w.heap.size < w2.heap.size := HX2.out.lt
    have hcx2 := HX2.out.cell
    go_wp2
    clear hcx2
    go_loopw [4, 22] (fun b i wr => ∃ (k : Nat), k ≤ n ∧ i = .int .i64 k ∧ Hid (RowStep w.heap.size (.slice none 0 0) w1 b wr (r1 ++ (tl.take k).flatMap ruBy))) (fun _ i _ => n - (intOf i).toNat)
    case atStart => exact ⟨0, Nat.zero_le _, rfl, hide_ (by simpa using HST2.out)⟩
    case round =>
      obtain ⟨k, hk, rfl, HK⟩ := hrel
      have hzw : w1.heap.size ≤ wr.heap.size := HK.out.grow.size
      have hbw : Below B w wr := (HB.out.mono hB).trans (HK.out.below (r0 := []) HO.out hB (by omega))
      by_cases hlt : k < n
      · have hs1 := (rus_stable.below HS.out hbw).2.2.1
        obtain ⟨x, hx⟩ : ∃ x, tl[k]? = some x := ⟨_, List.getElem?_eq_getElem (by rw [HN.out]; exact hlt)⟩
        obtain ⟨tb, ot, rfl, hab, e0, e1, e2, e3, e4, e5, e6⟩ := hs1.ru hx
        have hwz : tb < wr.heap.size := by omega
        have hxo := ru_stable.below (HS.out.2.2.2 x (List.mem_of_getElem? hx)) hbw
        have hru := mayT_rule HQ.out hx
        have HRS := hide_ (ruS_of hru)
        have HRP := hide_ (ruP_of hru)
        have HXX := hide_ (show r1 ++ (tl.take (k + 1)).flatMap ruBy = (r1 ++ (tl.take k).flatMap ruBy) ++ ruBy x by
          rw [flat_snoc hx]
          simp only [List.append_assoc])
        have HLN := hide_ (show (r1 ++ (tl.take k).flatMap ruBy).length ≤ 300000 by
          have h1 := flat_take_le (f := ruBy) (q := 7000) tl HL.out k
          rw [HN.out] at h1
          rw [List.length_append]
          omega)
        obtain ⟨fr, xc, xp, tt, ⟨gA, gc, gl⟩, ⟨sA, sc, sl⟩, ⟨eA, ec, el⟩⟩ := x
        simp only at e0 e1 e2 e3 e4 e5 e6
        obtain ⟨l2, hl2⟩ : ∃ l2, r1 ++ (tl.take (k + 1)).flatMap ruBy = l2 := ⟨_, rfl⟩
        rw [hl2] at HXX
        have HL2 := hide_ hl2
        have hU := (Below.refl wr.heap.size wr).alloc (Nat.le_refl _) (.cells #[.int .i64 fr, .int .i64 xc, .int .i64 xp, .int .i64 tt, .slice gA gl.length gc, .slice sA sl.length sc, .slice eA el.length ec] 40)
        have HU := hide_ hU
        have hxo2 := ru_stable.below hxo (hU.mono (by omega))
        generalize r1 ++ (tl.take k).flatMap ruBy = la at HXX HLN HK
        have HCALL := hide_ (putRule_any la l2 ⟨fr, xc, xp, tt, ⟨gA, gc, gl⟩, ⟨sA, sc, sl⟩, ⟨eA, ec, el⟩⟩ w.heap.size u4 B _ HXX.out.symm (by have := HLN.out; omega) HRS.out HRP.out hxo2 hB (own_below HK.out.own hU) (by simp; omega))
        simp only [RuM.v, Sl.v] at HCALL
        generalize gl.length = gn at e4 HCALL HU
        generalize sl.length = sn at e5 HCALL HU
        generalize el.length = ee at e6 HCALL HU
        clear hl2 hx hs1 hxo hru hU hxo2
        go_wp2_with fail
        refine HCALL.out.mono ?_
        rintro en w5 ⟨A5, c5, rfl, hst5⟩
        have HST5 := hide_ (HK.out.trans (RowStep.fresh HU.out hst5))
        clear hst5
        go_wp2
        go_roundw
        case rel => exact ⟨k + 1, by omega, by go_num, hide_ (by rw [HL2.out]; exact HST5.out)⟩
        case measure => simp [intOf]; omega
      · obtain rfl : k = n := by omega
        have HK2 := hide_ (show RowStep w.heap.size (.slice none 0 0) w1 _ wr r by
          have h := HK.out
          rwa [← HN.out, List.take_length, HR.out] at h)
        clear HK
        obtain ⟨A9, c9, hA9⟩ := own_slice HK2.out.own
        subst hA9
        go_wp2
        go_ret2
        exact ⟨_, _, rfl, HK2.out.own, HB.out.trans (HK2.out.below (r0 := []) HO.out (Nat.le_refl _) (by omega))⟩

theorem putR_example : putR 1 0 [] = ([1, 0, 0], 0) := by
  rw [putR_yes (by decide)]
  unfold tabBy natB
  simp only [List.length_nil, List.flatMap_nil, List.append_nil]
  rw [show ((1 : Int).toNat) = 1 from rfl, show ((0 : Int).toNat) = 0 from rfl, show (((0 : Nat) : Int).toNat) = 0 from rfl, numB_small (by omega), numB_small (by omega)]
  rfl

theorem awake05_any (w : World) : Calls Try.prog 9 #[] w fun e w' => e = .returned (.bool true) ∧ Below w.heap.size w w' := by
  have HC := hide_ (PutT_any 1 0 ⟨none, 0, []⟩ w.heap.size w ⟨by simp, by simp [maxLen], Sees.empty _ _ _, by simp⟩ (Nat.le_refl _))
  rw [show putR 1 0 (Sl.mk none 0 ([] : List RuM)).l = ([1, 0, 0], 0) from putR_example] at HC
  simp only [tabV, Sl.v, List.length_nil] at HC
  go_enter Try.func9, Try.ntmps9
  go_wp2_with fail
  refine HC.out.mono ?_
  rintro en w1 ⟨A, c, rfl, hown, hb⟩
  have k1 := run_str (P := Try.prog) w1 27 9 5 Try.underlying27 Try.underlying5 Try.underlying9 [1, 0, 0] _ A 3 c rfl (Sees.own hown)
  have HB := hide_ hb
  clear hown hb
  go_wp2
  go_ret
  exact ⟨rfl, HB.out⟩
end Go.Proofs.Ytkjgplcfoihohaa
