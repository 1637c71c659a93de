/-
  The contract of the reference's Build.
-/
import Derived.Test.YtlcgihdphdkhpaaRing2
import Derived.Test.YtlcgihdphdkhpaaSort8
namespace Go.Proofs.Ytlcgihdphdkhpaa
open Go.RowKit

theorem srt_nil : srt [] = [] := List.eq_nil_of_length_eq_zero (srt_perm []).length_eq
theorem ringM_zero (l : List UInt8) : srt (rawM (l.take 0)) = [] := by
  rw [List.take_zero]
  exact srt_nil
theorem srt_next (L : List Pt) (x : UInt8) (v : Nat) : srt (L ++ ptsUpto x (v + 1)) = insP (placeN x (UInt8.ofNat v), x) (srt (L ++ ptsUpto x v)) := by
  rw [ptsUpto_succ, ← List.append_assoc, srt_snoc]
theorem insP_fin_true {p : Pt} {l nx : List Pt} (h : insR p (l.take l.length) = (nx, true)) : insP p l = nx := by
  rw [List.take_length] at h
  simp [insP, h]
theorem insP_fin_false {p : Pt} {l nx : List Pt} (h : insR p (l.take l.length) = (nx, false)) : insP p l = nx ++ [p] := by
  rw [List.take_length] at h
  simp [insP, h]
theorem insR_len {p : Pt} {l : List Pt} {k : Nat} {nx : List Pt} {b : Bool} (hk : k ≤ l.length) (h : insR p (l.take k) = (nx, b)) : nx.length = k + (if b then 1 else 0) := by
  induction k generalizing nx b with
  | zero =>
    rw [List.take_zero] at h
    injection h with h1 h2
    subst h1 h2
    rfl
  | succ k ih =>
    rw [insR_take p l k (by omega)] at h
    obtain ⟨q, hs⟩ : ∃ q, insR p (l.take k) = q := ⟨_, rfl⟩
    obtain ⟨ny, c⟩ := q
    have h1 := ih (by omega) hs
    rw [hs] at h
    unfold insStep at h
    split at h
    · injection h with h2 h3
      subst h2 h3
      rename_i hc
      have : c = false := by
        simp at hc
        exact hc.1
      subst this
      simp [h1]
    · injection h with h2 h3
      subst h2 h3
      simp [h1]
      omega

set_option maxRecDepth 100000 in
set_option maxHeartbeats 3200000 in
theorem refBuild_any (l : List UInt8) (B : Nat) (A : Option Addr) (n c : Nat) (w : World) (hn : l.length = n) (hm : n ≤ 100) (h : Sees w B A (bv l)) (hB : B ≤ w.heap.size) :
    Calls Try.prog 39 #[.slice A n c] w fun e w' => ∃ A' n' c', e = .returned (.slice A' n' c') ∧ (ringM l).length = n' ∧ w'.ownsRow w.heap.size 65 2 (.slice A' n' c') n' (pv (ringM l)) ∧ Below w.heap.size w w' := by
  subst hn
  have HS := hide_ h
  have hb0 := ((Below.refl w.heap.size w).alloc (Nat.le_refl _) (.cells #[] 65)).alloc (by simp) (.cells #[] 5)
  have ho0 := (own_empty9 (s := 2) 65 (Nat.le_refl w.heap.size)).alloc (.cells #[] 5)
  have hd0 := own_empty9 (s := 1) (base := w.heap.size) (w := w.alloc (.cells #[] 65)) 5 (by simp)
  rw [show (w.alloc (.cells #[] 65)).heap.size = w.heap.size + 1 by simp] at hd0
  have HB0 := hide_ hb0
  have HO0 := hide_ (show ((w.alloc (.cells #[] 65)).alloc (.cells #[] 5)).ownsRow w.heap.size 65 2 (.slice (some ⟨w.heap.size, 0, none⟩) 0 0) 0 (pv (srt (rawM (l.take 0)))) by rw [ringM_zero]; exact ho0)
  have HD0 := hide_ (show ((w.alloc (.cells #[] 65)).alloc (.cells #[] 5)).ownsRow w.heap.size 5 1 (.slice (some ⟨w.heap.size + 1, 0, none⟩) 0 0) 0 (bv (nubs (l.take 0))) from hd0)
  have HN0 := hide_ (show (srt (rawM (l.take 0))).length = 0 by rw [ringM_zero]; rfl)
  have HM0 := hide_ (show (nubs (l.take 0)).length = 0 by rw [List.take_zero]; rfl)
  have HFIN := hide_ (show srt (rawM (l.take l.length)) = ringM l by rw [List.take_length]; rfl)
  have HNUB := hide_ (fun k (hk : k < l.length) => nubs_take l k hk)
  have HIN := hide_ (fun k (hk : k < l.length) (hin : (nubs (l.take k)).contains l[k] = true) => rawM_take_in l k hk (List.contains_iff_mem.1 hin))
  have HOUT := hide_ (fun k (hk : k < l.length) (hin : (nubs (l.take k)).contains l[k] = false) => rawM_take_out l k hk (fun h => by rw [List.contains_iff_mem.2 h] at hin; cases hin))
  have HNL := hide_ (fun k => show (nubs (l.take k)).length ≤ 100 by
    have h1 := nubs_len_le (l.take k)
    rw [List.length_take] at h1
    omega)
  clear h hb0 ho0 hd0
  go_enter Try.func39, Try.ntmps39
  go_wp2
  go_loopw [3, 4, 15] (fun r d i wx => ∃ (k : Nat) (A1 : Option Addr) (n1 c1 : Nat) (A2 : Option Addr) (n2 c2 : Nat), k ≤ l.length ∧ i = .int .i64 k ∧ r = .slice A1 n1 c1 ∧ d = .slice A2 n2 c2 ∧ Hid ((srt (rawM (l.take k))).length = n1) ∧ Hid ((nubs (l.take k)).length = n2) ∧
    Hid (wx.ownsRow w.heap.size 65 2 (.slice A1 n1 c1) n1 (pv (srt (rawM (l.take k))))) ∧ Hid (wx.ownsRow w.heap.size 5 1 (.slice A2 n2 c2) n2 (bv (nubs (l.take k)))) ∧ Hid (Below w.heap.size w wx)) (fun _ _ i _ => l.length - (intOf i).toNat)
  case atStart => exact ⟨0, _, 0, 0, _, 0, 0, by omega, rfl, rfl, rfl, HN0, HM0, HO0, HD0, HB0⟩
  case round =>
    obtain ⟨k, A1, n1, c1, A2, n2, c2, hk, rfl, rfl, rfl, HN, HM, HO, HD, HB⟩ := hrel
    by_cases hlt : k < l.length
    · obtain ⟨b, o, rfl, hbB, hck⟩ := (HS.out.below (HB.out.mono hB)).u8 hlt
      have hn2 : n2 ≤ 100 := by have := HNL.out k; have := HM.out; omega
      have hwz : w.heap.size ≤ wr.heap.size := HB.out.size
      have HNU := HNUB.out k hlt
      have HI := HIN.out k hlt
      have HU := HOUT.out k hlt
      obtain ⟨x, hx⟩ : ∃ x, l[k] = x := ⟨_, rfl⟩
      rw [hx] at hck HNU HI HU
      have HNU := hide_ HNU
      have HI := hide_ HI
      have HU := hide_ HU
      have HXK := hide_ hx
      clear hx
      have HH := hide_ (has9_any (nubs (l.take k)) x wr.heap.size A2 n2 c2 wr HM.out (by unfold maxLen; omega) (Sees.ownRow9 HD.out))
      cases hin : (nubs (l.take k)).contains x with
      | true =>
        have HE := hide_ (HI.out hin)
        have HE2 := hide_ (show nubs (l.take (k + 1)) = nubs (l.take k) by rw [HNU.out]; exact nubStep_in (List.contains_iff_mem.1 hin))
        rw [hin] at HH
        clear hin
        go_wp2_with fail
        refine HH.out.mono ?_
        rintro e w1 ⟨rfl, rfl⟩
        go_wp2
        go_roundw
        case rel => exact ⟨k + 1, A1, n1, c1, A2, n2, c2, by omega, by go_num, rfl, rfl, hide_ (by rw [HE.out]; exact HN.out), hide_ (by rw [HE2.out]; exact HM.out), hide_ (by rw [HE.out]; exact HO.out), hide_ (by rw [HE2.out]; exact HD.out), HB⟩
        case measure => simp [intOf]; omega
      | false =>
        have HE := hide_ (HU.out hin)
        have HE2 := hide_ (show nubs (l.take (k + 1)) = nubs (l.take k) ++ [x] by rw [HNU.out]; exact nubStep_out (fun h => by rw [List.contains_iff_mem.2 h] at hin; cases hin))
        rw [hin] at HH
        clear hin
        have HDA := hide_ (HD.out.alloc (.cells #[.int .u8 (x.toNat : Int)] 5))
        have HOA := hide_ (HO.out.alloc (.cells #[.int .u8 (x.toNat : Int)] 5))
        have HSN := hide_ (sees_box wr #[.int .u8 (x.toNat : Int)] 5 (bv [x]) rfl)
        have HCV := hide_ (show bv (nubs (l.take k)) ++ bv [x] = bv (nubs (l.take (k + 1))) by rw [HE2.out, bv_append])
        go_wp2_with fail
        refine HH.out.mono ?_
        rintro e w1 ⟨rfl, rfl⟩
        go_wp2_with (at_builtin; refine wpList_append_grown _ rfl _ _ 23 rfl w.heap.size 5 _ 1 1 u8_info rfl (by omega) Try.underlying23 _ n2 (bv (nubs (l.take k))) rfl HDA.out (wr.heap.size + 1) (some ⟨wr.heap.size, 0, none⟩) 1 1 (bv [x]) rfl rfl HSN.out (bv_oneCell _) (by omega) (by omega) (by simp; omega) (n2 + 1) rfl _ HCV.out ?_; intro A4 c4 w4 hown hg4; have HD4 := hide_ hown; have HG4 := hide_ hg4; clear hown hg4)
        have HO4 := hide_ (own_beside9 HOA.out HDA.out (by decide) HG4.out)
        have HB4 := hide_ ((HB.out.alloc hwz (.cells #[.int .u8 (x.toNat : Int)] 5)).grown HG4.out (by simp; omega) (fun j hj => (HDA.out.lt j hj).1))
        have HM4 := hide_ (show (nubs (l.take (k + 1))).length = n2 + 1 by rw [HE2.out, List.length_append, HM.out]; rfl)
        have HST := hide_ (show srt (rawM (l.take k) ++ ptsUpto x 0) = srt (rawM (l.take k)) by simp [ptsUpto])
        have HEND := hide_ (show srt (rawM (l.take k) ++ ptsUpto x 8) = srt (rawM (l.take (k + 1))) by rw [HE.out]; rfl)
        have HNX := hide_ (fun v => srt_next (rawM (l.take k)) x v)
        have HLL := hide_ (fun v => show (srt (rawM (l.take k) ++ ptsUpto x v)).length ≤ 800 + v by
          rw [(srt_perm _).length_eq, List.length_append, ptsUpto_len, rawM_len]
          have := HNL.out k
          omega)
        obtain ⟨L, hL⟩ : ∃ L, rawM (l.take k) = L := ⟨_, rfl⟩
        rw [hL] at HST HEND HN HO4 HNX HLL
        rw [← HST.out] at HN HO4
        clear hL HO HD HB HDA HOA HSN HCV HG4 HH HI HU HNU HE HNUB HIN HOUT hck
        go_wp2
        obtain ⟨wo, hwo⟩ : ∃ wo, wo = wr := ⟨_, rfl⟩
        subst hwo
        go_loopw [3, 6] (fun r v wx => ∃ (v' : Nat) (A1 : Option Addr) (n1 c1 : Nat), v' ≤ 8 ∧ v = .int .u8 v' ∧ r = .slice A1 n1 c1 ∧ Hid ((srt (L ++ ptsUpto x v')).length = n1) ∧ Hid (wx.ownsRow w.heap.size 65 2 (.slice A1 n1 c1) n1 (pv (srt (L ++ ptsUpto x v')))) ∧
          Hid (wx.ownsRow w.heap.size 5 1 (.slice A4 (n2 + 1) c4) (n2 + 1) (bv (nubs (l.take (k + 1))))) ∧ Hid (Below w.heap.size w wx)) (fun _ v _ => 8 - (intOf v).toNat)
        case atStart => exact ⟨0, A1, n1, c1, by omega, rfl, rfl, HN, HO4, HD4, HB4⟩
        case round =>
          obtain ⟨v, A5, n5, c5, hv, rfl, rfl, HN5, HO5, HD5, HB5⟩ := hrel
          by_cases hlv : v < 8
          · obtain ⟨wv, hwv⟩ : ∃ wv, wv = wr := ⟨_, rfl⟩
            subst hwv
            have hn5 : n5 ≤ 808 := by have := HLL.out v; have := HN5.out; omega
            obtain ⟨b', o', he, -, hck'⟩ := (HS.out.below (HB5.out.mono hB)).u8 hlt
            injection he with he
            injection he with he1 he2
            subst he1 he2
            rw [HXK.out] at hck'
            have hbv : b < wv.heap.size := by have := HB5.out.size; omega
            have HKEEP := hide_ (fun (u : World) (hu : Below wv.heap.size wv u) => show u.cell? ⟨b, o + k, none⟩ = some (.int .u8 (x.toNat : Int)) from (hu.cell (p := ⟨b, o + k, none⟩) hbv).trans hck')
            have HPL := hide_ (fun (u : World) => refPlace_any x (UInt8.ofNat v) u)
            rw [byte_of (show v < 256 by omega)] at HPL
            have HNV := HNX.out v
            have hpl : placeN x (UInt8.ofNat v) = stirN (fnv [110, x, UInt8.ofNat v]) := rfl
            rw [← hpl] at HPL
            obtain ⟨ph, hph⟩ : ∃ ph, placeN x (UInt8.ofNat v) = ph := ⟨_, rfl⟩
            rw [hph] at HPL HNV
            have HNV := hide_ HNV
            clear hpl hph hck'
            go_upto_region 11 with fail
            go_cut [7] (fun pt wx => ∃ y, pt = .pointer (some ⟨y, 0, none⟩) ∧ wv.heap.size ≤ y ∧ Hid (BoxAt wx y #[.int .u64 (ph : Nat), .int .u8 (x.toNat : Int)] 65) ∧ Hid (Below wv.heap.size wv wx))
            case first =>
              refine wp_region_held_drew (S := fun w' => w'.cell? ⟨b, o + k, none⟩ = some (.int .u8 (x.toNat : Int))) (by kernel_rfl) (HKEEP.out _ (Below.refl _ _).drew) (fun hHeld => ?_)
              refine wpAnyH_take (i := 0) (oi := ⟨some 35, _, _, _, _, _⟩) (v := ?v1) rfl (by kernel_rfl) (by kernel_rfl) (by kernel_rfl) (fun _ _ _ h => h) (Or.inl ⟨by rfl, ?hy1⟩) (by assumption) ?rest1
              case hy1 => intro w hSw; (try dsimp only at hSw); go_simp <;> with_reducible rfl
              simp only [Act.put, List.setIfInBounds_toArray, List.set_cons_zero, List.set_cons_succ]
              refine wpAnyH_take (i := 1) (oi := ⟨some 36, _, _, _, _, _⟩) (v := ?v2) rfl (by kernel_rfl) (by kernel_rfl) (by kernel_rfl) (fun _ _ _ h => h) (Or.inl ⟨by rfl, ?hy2⟩) (by assumption) ?rest2
              case hy2 => intro w hSw; (try dsimp only at hSw); go_simp <;> with_reducible rfl
              simp only [Act.put, List.setIfInBounds_toArray, List.set_cons_zero, List.set_cons_succ]
              refine wpAnyH_take (i := 2) (oi := ⟨some 37, _, _, _, _, _⟩) (v := ?v3) rfl (by kernel_rfl) (by kernel_rfl) (by kernel_rfl) (fun _ _ _ h => h) (Or.inl ⟨by rfl, ?hy3⟩) (by assumption) ?rest3
              case hy3 => intro w hSw; (try dsimp only at hSw); go_simp <;> with_reducible rfl
              simp only [Act.put, List.setIfInBounds_toArray, List.set_cons_zero, List.set_cons_succ]
              refine wpAnyH_take (i := 3) (oi := ⟨some 38, _, _, _, _, _⟩) (v := ?v4) rfl (by kernel_rfl) (by kernel_rfl) (by kernel_rfl) (fun _ _ _ h => h) (Or.inl ⟨by rfl, ?hy4⟩) (by assumption) ?rest4
              case hy4 => intro w hSw; (try dsimp only at hSw); go_simp <;> with_reducible rfl
              simp only [Act.put, List.setIfInBounds_toArray, List.set_cons_zero, List.set_cons_succ]
              refine wpAnyH_take (i := 4) (oi := ⟨some 39, _, _, _, _, _⟩) (v := ?v5) rfl (by kernel_rfl) (by kernel_rfl) (by kernel_rfl) (fun _ _ _ h => h) (Or.inl ⟨by rfl, ?hy5⟩) (by assumption) ?rest5
              case hy5 => intro w hSw; (try dsimp only at hSw); go_simp <;> with_reducible rfl
              simp only [Act.put, List.setIfInBounds_toArray, List.set_cons_zero, List.set_cons_succ]
              refine wpAnyH_take (i := 6) (oi := ⟨some 41, _, _, _, _, _⟩) (v := ?v6) rfl (by kernel_rfl) (by kernel_rfl) (by kernel_rfl) (fun _ _ _ h => h) (Or.inl ⟨by rfl, ?hy6⟩) (by assumption) ?rest6
              case hy6 => intro w hSw; (try dsimp only at hSw); go_simp <;> with_reducible rfl
              simp only [Act.put, List.setIfInBounds_toArray, List.set_cons_zero, List.set_cons_succ]
              refine wpAnyH_take (i := 7) (oi := ⟨some 42, _, _, _, _, _⟩) (v := ?v7) rfl (by kernel_rfl) (by kernel_rfl) (by kernel_rfl) (fun _ _ _ h => h) (Or.inl ⟨by rfl, ?hy7⟩) (by assumption) ?rest7
              case hy7 => intro w hSw; (try dsimp only at hSw); go_simp <;> with_reducible rfl
              simp only [Act.put, List.setIfInBounds_toArray, List.set_cons_zero, List.set_cons_succ]
              refine wpAnyH_take (i := 8) (oi := ⟨some 43, _, _, _, _, _⟩) (v := ?v8) rfl (by kernel_rfl) (by kernel_rfl) (by kernel_rfl) (fun _ _ _ h => h) (Or.inl ⟨by rfl, ?hy8⟩) (by assumption) ?rest8
              case hy8 => intro w hSw; (try dsimp only at hSw); go_simp <;> with_reducible rfl
              simp only [Act.put, List.setIfInBounds_toArray, List.set_cons_zero, List.set_cons_succ]
              refine wpAnyH_take (i := 9) (oi := ⟨some 44, _, _, _, _, _⟩) (v := ?v9) rfl (by kernel_rfl) (by kernel_rfl) (by kernel_rfl) (fun _ _ _ h => h) (Or.inl ⟨by rfl, ?hy9⟩) (by assumption) ?rest9
              case hy9 => intro w hSw; (try dsimp only at hSw); go_simp <;> with_reducible rfl
              simp only [Act.put, List.setIfInBounds_toArray, List.set_cons_zero, List.set_cons_succ]
              refine wpAnyH_ready (rs := [5, 11]) (by kernel_rfl) (by simp) ?_
              refine AllReadyH.cons rfl (fun K hK => ?_) (AllReadyH.cons rfl (fun K hK => ?_) AllReadyH.nil)
              · go_simp
                go_wp2_with fail
                refine (HPL.out _).mono ?_
                rintro e w5 ⟨rfl, hb5⟩
                have HB5 := hide_ (show Below wv.heap.size wv w5 from Below.of_drew hb5)
                clear hb5
                refine hK.out _ _ (HKEEP.out _ HB5.out) (fun hHeld => ?_)
                clear hK K
                refine wpAnyH_take (i := 10) (oi := ⟨some 45, _, _, _, _, _⟩) (v := ?v10) rfl (by kernel_rfl) (by kernel_rfl) (by kernel_rfl) (fun _ _ _ h => h) (Or.inl ⟨by rfl, ?hy10⟩) (by assumption) ?rest10
                case hy10 => intro w hSw; (try dsimp only at hSw); go_simp <;> with_reducible rfl
                simp only [Act.put, List.setIfInBounds_toArray, List.set_cons_zero, List.set_cons_succ]
                refine wpAnyH_ready (rs := [11]) (by kernel_rfl) (by simp) ?_
                refine AllReadyH.cons rfl (fun K hK => ?_) AllReadyH.nil
                go_simp
                refine hK.out _ _ (HKEEP.out _ (HB5.out.alloc HB5.out.size _)) (fun hHeld => ?_)
                clear hK K
                refine wpAnyH_ready (rs := [12]) (by kernel_rfl) (by simp) ?_
                refine AllReadyH.cons rfl (fun K hK => ?_) AllReadyH.nil
                go_simp
                refine hK.out _ _ ?_ (fun hHeld => ?_)
                rotate_left
                clear hK K
                refine wpAnyH_done (by kernel_rfl) ?_ _
                go_wp2_with fail
                go_meet
                exact ⟨_, rfl, HB5.out.size, hide_ (BoxAt.new w5 _ _), hide_ (HB5.out.alloc HB5.out.size _)⟩
                exact HKEEP.out _ (HB5.out.alloc HB5.out.size _)
              · go_simp
                have HZ6 := hide_ (show BoxAt (wv.alloc (.cells #[.int .u64 0, .int .u8 0] 65)).drew wv.heap.size #[.int .u64 0, .int .u8 0] 65 from (BoxAt.new wv _ _).below (Below.refl _ _).drew)
                have HB6 := hide_ (((Below.refl wv.heap.size wv).alloc (Nat.le_refl _) (.cells #[.int .u64 0, .int .u8 0] 65)).drew)
                refine hK.out _ _ (HKEEP.out _ HB6.out) (fun hHeld => ?_)
                clear hK K
                refine wpAnyH_ready (rs := [5]) (by kernel_rfl) (by simp) ?_
                refine AllReadyH.cons rfl (fun K hK => ?_) AllReadyH.nil
                go_simp
                go_wp2_with fail
                refine (HPL.out _).mono ?_
                rintro e w5 ⟨rfl, hb5⟩
                have HZ5 := hide_ (HZ6.out.below hb5)
                have HB5' := hide_ (HB6.out.trans (hb5.mono HB6.out.size))
                clear hb5
                refine hK.out _ _ (HKEEP.out _ HB5'.out) (fun hHeld => ?_)
                clear hK K
                refine wpAnyH_take (i := 10) (oi := ⟨some 45, _, _, _, _, _⟩) (v := ?v41) rfl (by kernel_rfl) (by kernel_rfl) (by kernel_rfl) (fun _ _ _ h => h) (Or.inl ⟨by rfl, ?hy41⟩) (by assumption) ?rest41
                case hy41 => intro w hSw; (try dsimp only at hSw); go_simp <;> with_reducible rfl
                simp only [Act.put, List.setIfInBounds_toArray, List.set_cons_zero, List.set_cons_succ]
                have q0 := (HZ5.out.cell 0).trans (show _ = some (.int .u64 0) from rfl)
                have q1 := (HZ5.out.cell 1).trans (show _ = some (.int .u8 0) from rfl)
                have f0 := HZ5.out.free9 0
                have f1 := HZ5.out.free9 1
                have HST := hide_ (show BoxAt ((w5.setCell ⟨wv.heap.size, 0, none⟩ (.int .u64 (ph : Nat))).setCell ⟨wv.heap.size, 1, none⟩ (.int .u8 (x.toNat : Int))) wv.heap.size #[.int .u64 (ph : Nat), .int .u8 (x.toNat : Int)] 65 from (HZ5.out.set9 0 (.int .u64 (ph : Nat))).set9 1 (.int .u8 (x.toNat : Int)))
                have HSB := hide_ (show Below wv.heap.size wv ((w5.setCell ⟨wv.heap.size, 0, none⟩ (.int .u64 (ph : Nat))).setCell ⟨wv.heap.size, 1, none⟩ (.int .u8 (x.toNat : Int))) from (HB5'.out.setCell (by simp) _).setCell (by simp) _)
                refine wpAnyH_ready (rs := [12]) (by kernel_rfl) (by simp) ?_
                refine AllReadyH.cons rfl (fun K hK => ?_) AllReadyH.nil
                go_simp
                refine hK.out _ _ (HKEEP.out _ HSB.out) (fun hHeld => ?_)
                clear hK K
                refine wpAnyH_done (by kernel_rfl) ?_ _
                go_wp2_with fail
                go_meet
                exact ⟨_, rfl, Nat.le_refl _, HST, HSB⟩
            case rest =>
              obtain ⟨y, rfl, hy, HBX, HBC⟩ := hcut
              have HOC := hide_ (own_below HO5.out HBC.out)
              have HDC := hide_ (own_below HD5.out HBC.out)
              have hyc : y < wc.heap.size := HBX.out.lt
              have HBW := hide_ (HB5.out.trans (HBC.out.mono HB5.out.size))
              have hwc : w.heap.size ≤ wc.heap.size := HBW.out.size
              obtain ⟨rl, hrl⟩ : ∃ rl, srt (L ++ ptsUpto x v) = rl := ⟨_, rfl⟩
              rw [hrl] at HN5 HOC HNV
              have HSR := hide_ (Sees.ownRow9 HOC.out)
              have HX0 := hide_ (own_empty9 (w := wc) (s := 2) 65 (Nat.le_refl wc.heap.size))
              have HY0 := hide_ ((Below.refl wc.heap.size wc).alloc (Nat.le_refl _) (.cells #[] 65))
              have HI0 := hide_ (show insR (ph, x) (rl.take 0) = ([], false) from rfl)
              have HTK := hide_ (fun j (hj : j < rl.length) => insR_take (ph, x) rl j hj)
              have HIL := hide_ (fun j nl pb (hj : j ≤ rl.length) (h : insR (ph, x) (rl.take j) = (nl, pb)) => insR_len hj h)
              have HFT := hide_ (fun nl (h : insR (ph, x) (rl.take rl.length) = (nl, true)) => insP_fin_true h)
              have HFF := hide_ (fun nl (h : insR (ph, x) (rl.take rl.length) = (nl, false)) => insP_fin_false h)
              have hn5' := HN5.out
              have HLP := hide_ (insP_len (ph, x) rl)
              clear hrl HO5 HD5 HBC HPL HKEEP
              go_wp2
              go_loopw [8, 9, 49] (fun nx pt i wx => ∃ (j : Nat) (A6 : Option Addr) (n6 c6 : Nat) (nl : List Pt) (pb : Bool), j ≤ n5 ∧ i = .int .i64 j ∧ nx = .slice A6 n6 c6 ∧ pt = .bool pb ∧ n6 ≤ j + 1 ∧ Hid (insR (ph, x) (rl.take j) = (nl, pb)) ∧ Hid (nl.length = n6) ∧ Hid (wx.ownsRow wc.heap.size 65 2 (.slice A6 n6 c6) n6 (pv nl)) ∧ Hid (Below wc.heap.size wc wx)) (fun _ _ i _ => n5 - (intOf i).toNat)
              case atStart => exact ⟨0, _, 0, 0, [], false, by omega, rfl, rfl, rfl, by omega, HI0, hide_ rfl, HX0, HY0⟩
              case round =>
                obtain ⟨j, A6, n6, c6, nl, pb, hj, rfl, rfl, rfl, hn6, HIN, HNL6, HO6, HB6⟩ := hrel
                by_cases hlj : j < n5
                · have hjl : j < rl.length := by omega
                  obtain ⟨rb, ro, rfl, hrb, hr0, hr1⟩ := (HSR.out.below HB6.out).pt hjl
                  have HT := HTK.out j hjl
                  obtain ⟨r, hr⟩ : ∃ r, rl[j] = r := ⟨_, rfl⟩
                  rw [hr] at HT hr0 hr1
                  rw [HIN.out] at HT
                  have HT := hide_ HT
                  clear hr
                  obtain ⟨rh, rn⟩ := r
                  simp only at hr0 hr1
                  have hsz : wc.heap.size ≤ wr.heap.size := HB6.out.size
                  have hyr : y < wr.heap.size := by omega
                  have hrbr : rb < wr.heap.size := by omega
                  have HXB := hide_ (HBX.out.below HB6.out)
                  have hp0 := HXB.out.cell 0
                  have hp1 := HXB.out.cell 1
                  simp at hp0 hp1
                  cases pb with
                  | true =>
                    have HS1 := hide_ (show insR (ph, x) (rl.take (j + 1)) = (nl ++ [(rh, rn)], true) from HT.out)
                    have HCV := hide_ (show pv nl ++ pv [(rh, rn)] = pv (nl ++ [(rh, rn)]) by rw [pv_append])
                    have HNL2 := hide_ (show (nl ++ [(rh, rn)]).length = n6 + 1 by rw [List.length_append, HNL6.out]; rfl)
                    go_upto_region 17 with fail
                    go_quiet (fail)
                    have HO7 := hide_ (show ((wr.drewN nq).alloc (.cells #[.int .u64 (rh : Nat), .int .u8 (rn.toNat : Int)] 65)).ownsRow wc.heap.size 65 2 (.slice A6 n6 c6) n6 (pv nl) from (own_drew9 HO6.out nq).alloc _)
                    have HB7 := hide_ ((dN9 HB6.out nq).alloc hsz (.cells #[.int .u64 (rh : Nat), .int .u8 (rn.toNat : Int)] 65))
                    have hr0' : (wr.drewN nq).cell? ⟨rb, ro + j * 2, none⟩ = some (.int .u64 (rh : Nat)) := hr0
                    have hr1' : (wr.drewN nq).cell? ⟨rb, ro + j * 2 + 1, none⟩ = some (.int .u8 (rn.toNat : Int)) := hr1
                    have hs2 : wc.heap.size ≤ (wr.drewN nq).heap.size := hsz
                    obtain ⟨W2, hW2⟩ : ∃ W2, wr.drewN nq = W2 := ⟨_, rfl⟩
                    rw [hW2] at HO7 HB7 hr0' hr1' hs2 ⊢
                    clear hW2
                    go_wp2_with (at_builtin; refine wpList_append_cells _ rfl _ _ 58 rfl wc.heap.size 65 _ 2 16 pt_info rfl (by omega) Try.underlying58 _ n6 (pv nl) rfl HO7.out (W2.heap.size + 1) (some ⟨W2.heap.size, 0, none⟩) 1 1 (pv [(rh, rn)]) rfl rfl (sees_box W2 #[.int .u64 (rh : Nat), .int .u8 (rn.toNat : Int)] 65 (pv [(rh, rn)]) rfl) (pv_one _) (by omega) (by omega) (by simp; omega) (n6 + 1) rfl _ HCV.out ?_; intro A9 c9 w9 hown hb3; have HO9 := hide_ hown; have HB9 := hide_ hb3; clear hown hb3)
                    go_roundw
                    case rel => exact ⟨j + 1, A9, n6 + 1, c9, _, true, by omega, by go_num, rfl, rfl, by omega, HS1, HNL2, HO9, hide_ (HB7.out.trans HB9.out)⟩
                    case measure => simp [intOf]; omega
                  | false =>
                    have HPT := hide_ (show ptLt (ph, x) (rh, rn) = ptLt (ph, x) (rh, rn) from rfl)
                    have HLS := hide_ (fun (u : World) => refLess9_any (ph, x) (rh, rn) u)
                    simp only at HLS
                    have HK3 := hide_ (fun (u : World) (hu : Below wr.heap.size wr u) => show (u.cell? ⟨y, 0, none⟩ = some (.int .u64 (ph : Nat)) ∧ u.cell? ⟨y, 1, none⟩ = some (.int .u8 (x.toNat : Int)) ∧ u.cell? ⟨rb, ro + j * 2, none⟩ = some (.int .u64 (rh : Nat)) ∧ u.cell? ⟨rb, ro + j * 2 + 1, none⟩ = some (.int .u8 (rn.toNat : Int))) from ⟨(hu.cell (p := ⟨y, 0, none⟩) hyr).trans hp0, (hu.cell (p := ⟨y, 1, none⟩) hyr).trans hp1, (hu.cell (p := ⟨rb, ro + j * 2, none⟩) hrbr).trans hr0, (hu.cell (p := ⟨rb, ro + j * 2 + 1, none⟩) hrbr).trans hr1⟩)
                    have HQ7 := hide_ (fun (u : World) (hu : Below wr.drew.heap.size wr.drew u) => show Below wr.heap.size wr u from Below.of_drew hu)
                    cases hlt3 : ptLt (ph, x) (rh, rn) with
                    | true =>
                      rw [hlt3] at HLS
                      have HS1 := hide_ (show insR (ph, x) (rl.take (j + 1)) = (nl ++ [(ph, x), (rh, rn)], true) from HT.out.trans (by simp [insStep, hlt3]))
                      have HCV := hide_ (show pv nl ++ pv [(ph, x)] = pv (nl ++ [(ph, x)]) by rw [pv_append])
                      have HCV2 := hide_ (show pv (nl ++ [(ph, x)]) ++ pv [(rh, rn)] = pv (nl ++ [(ph, x), (rh, rn)]) by rw [← pv_append, List.append_assoc]; rfl)
                      have HNL2 := hide_ (show (nl ++ [(ph, x), (rh, rn)]).length = n6 + 1 + 1 by rw [List.length_append, HNL6.out]; rfl)
                      have hn6' : n6 ≤ j := by have h := HIL.out j nl false (by omega) HIN.out; have h2 := HNL6.out; simp at h; omega
                      clear hlt3
                      go_upto_region 17 with fail
                      go_region_held (fun w' => w'.cell? ⟨y, 0, none⟩ = some (.int .u64 (ph : Nat)) ∧ w'.cell? ⟨y, 1, none⟩ = some (.int .u8 (x.toNat : Int)) ∧ w'.cell? ⟨rb, ro + j * 2, none⟩ = some (.int .u64 (rh : Nat)) ∧ w'.cell? ⟨rb, ro + j * 2 + 1, none⟩ = some (.int .u8 (rn.toNat : Int))) (first | go_keep | exact HKK.out)
                          (first | (go_at_call 50; refine (HLS.out _).mono ?_; rintro e w7 ⟨rfl, hb7⟩; have HBB := hide_ (HQ7.out w7 hb7); have HKK := hide_ (HK3.out w7 HBB.out); clear hb7))
                      obtain ⟨k0, k1, k2, k3⟩ := HKK.out
                      have HO7 := hide_ (own_below (own_mono HO6.out (Nat.le_refl _)) HBB.out)
                      have HB7 := hide_ (HB6.out.trans (HBB.out.mono hsz))
                      have hs2 : wc.heap.size ≤ w7.heap.size := HB7.out.size
                      clear HKK HK3 HQ7 HLS
                      have hyw : y < w7.heap.size := by omega
                      have hrw : rb < w7.heap.size := by have := HBB.out.size; omega
                      have HOP := hide_ (HO7.out.alloc (.cells #[.int .u64 (ph : Nat), .int .u8 (x.toNat : Int)] 65))
                      go_upto_region 20 with (at_builtin; refine wpList_append_cells _ rfl _ _ 58 rfl wc.heap.size 65 _ 2 16 pt_info rfl (by omega) Try.underlying58 _ n6 (pv nl) rfl HOP.out (w7.heap.size + 1) (some ⟨w7.heap.size, 0, none⟩) 1 1 (pv [(ph, x)]) rfl rfl (sees_box w7 #[.int .u64 (ph : Nat), .int .u8 (x.toNat : Int)] 65 (pv [(ph, x)]) rfl) (pv_one _) (by omega) (by omega) (by simp; omega) (n6 + 1) rfl _ HCV.out ?_; intro A8 c8 w8 hown hb3; have HO8 := hide_ hown; have HB8 := hide_ hb3; clear hown hb3)
                      have HB8' := hide_ ((HB7.out.alloc hs2 (.cells #[.int .u64 (ph : Nat), .int .u8 (x.toNat : Int)] 65)).trans HB8.out)
                      have hs8 : wc.heap.size ≤ w8.heap.size := HB8'.out.size
                      have HR8 := hide_ (show w8.cell? ⟨rb, ro + j * 2, none⟩ = some (.int .u64 (rh : Nat)) ∧ w8.cell? ⟨rb, ro + j * 2 + 1, none⟩ = some (.int .u8 (rn.toNat : Int)) from by
                        have h8 := (HSR.out.below HB8'.out)
                        have h6 := (HSR.out.below HB6.out)
                        exact ⟨(HB8.out.cell (p := ⟨rb, ro + j * 2, none⟩) (by show rb < wc.heap.size; omega)).trans (by rw [World.cell?_alloc_old _ _ _ (by simp; omega)]; exact k2), (HB8.out.cell (p := ⟨rb, ro + j * 2 + 1, none⟩) (by show rb < wc.heap.size; omega)).trans (by rw [World.cell?_alloc_old _ _ _ (by simp; omega)]; exact k3)⟩)
                      obtain ⟨k4, k5⟩ := HR8.out
                      have HOQ := hide_ (HO8.out.alloc (.cells #[.int .u64 (rh : Nat), .int .u8 (rn.toNat : Int)] 65))
                      have HBQ := hide_ (HB8'.out.alloc hs8 (.cells #[.int .u64 (rh : Nat), .int .u8 (rn.toNat : Int)] 65))
                      go_wp2_with (at_builtin; refine wpList_append_cells _ rfl _ _ 58 rfl wc.heap.size 65 _ 2 16 pt_info rfl (by omega) Try.underlying58 _ (n6 + 1) (pv (nl ++ [(ph, x)])) rfl HOQ.out (w8.heap.size + 1) (some ⟨w8.heap.size, 0, none⟩) 1 1 (pv [(rh, rn)]) rfl rfl (sees_box w8 #[.int .u64 (rh : Nat), .int .u8 (rn.toNat : Int)] 65 (pv [(rh, rn)]) rfl) (pv_one _) (by omega) (by omega) (by simp; omega) ((n6 + 1) + 1) rfl _ HCV2.out ?_; intro A9 c9 w9 hown hb3; have HO9 := hide_ hown; have HB9 := hide_ hb3; clear hown hb3)
                      go_roundw
                      case rel => exact ⟨j + 1, A9, n6 + 1 + 1, c9, _, true, by omega, by go_num, rfl, rfl, by omega, HS1, HNL2, HO9, hide_ (HBQ.out.trans HB9.out)⟩
                      case measure => simp [intOf]; omega
                    | false =>
                      rw [hlt3] at HLS
                      have HS1 := hide_ (show insR (ph, x) (rl.take (j + 1)) = (nl ++ [(rh, rn)], false) from HT.out.trans (by simp [insStep, hlt3]))
                      have HCV := hide_ (show pv nl ++ pv [(rh, rn)] = pv (nl ++ [(rh, rn)]) by rw [pv_append])
                      have HNL2 := hide_ (show (nl ++ [(rh, rn)]).length = n6 + 1 by rw [List.length_append, HNL6.out]; rfl)
                      clear hlt3
                      go_upto_region 17 with fail
                      go_region_held (fun w' => w'.cell? ⟨y, 0, none⟩ = some (.int .u64 (ph : Nat)) ∧ w'.cell? ⟨y, 1, none⟩ = some (.int .u8 (x.toNat : Int)) ∧ w'.cell? ⟨rb, ro + j * 2, none⟩ = some (.int .u64 (rh : Nat)) ∧ w'.cell? ⟨rb, ro + j * 2 + 1, none⟩ = some (.int .u8 (rn.toNat : Int))) (first | go_keep | exact HKK.out)
                          (first | (go_at_call 50; refine (HLS.out _).mono ?_; rintro e w7 ⟨rfl, hb7⟩; have HBB := hide_ (HQ7.out w7 hb7); have HKK := hide_ (HK3.out w7 HBB.out); clear hb7))
                      obtain ⟨k0, k1, k2, k3⟩ := HKK.out
                      have HO7 := hide_ (own_below (own_mono HO6.out (Nat.le_refl _)) HBB.out)
                      have HB7 := hide_ (HB6.out.trans (HBB.out.mono hsz))
                      have hs2 : wc.heap.size ≤ w7.heap.size := HB7.out.size
                      clear HKK HK3 HQ7 HLS
                      have HOQ := hide_ (HO7.out.alloc (.cells #[.int .u64 (rh : Nat), .int .u8 (rn.toNat : Int)] 65))
                      have HBQ := hide_ (HB7.out.alloc hs2 (.cells #[.int .u64 (rh : Nat), .int .u8 (rn.toNat : Int)] 65))
                      go_wp2_with (at_builtin; refine wpList_append_cells _ rfl _ _ 58 rfl wc.heap.size 65 _ 2 16 pt_info rfl (by omega) Try.underlying58 _ n6 (pv nl) rfl HOQ.out (w7.heap.size + 1) (some ⟨w7.heap.size, 0, none⟩) 1 1 (pv [(rh, rn)]) rfl rfl (sees_box w7 #[.int .u64 (rh : Nat), .int .u8 (rn.toNat : Int)] 65 (pv [(rh, rn)]) rfl) (pv_one _) (by omega) (by omega) (by simp; omega) (n6 + 1) rfl _ HCV.out ?_; intro A9 c9 w9 hown hb3; have HO9 := hide_ hown; have HB9 := hide_ hb3; clear hown hb3)
                      go_roundw
                      case rel => exact ⟨j + 1, A9, n6 + 1, c9, _, false, by omega, by go_num, rfl, rfl, by omega, HS1, HNL2, HO9, hide_ (HBQ.out.trans HB9.out)⟩
                      case measure => simp [intOf]; omega
                · obtain rfl : j = n5 := by omega
                  rw [← hn5'] at HIN
                  have HDW := hide_ (own_below HDC.out HB6.out)
                  have hs6 : wc.heap.size ≤ wr.heap.size := HB6.out.size
                  have HBW6 := hide_ (HBW.out.trans (HB6.out.mono hwc))
                  have HXB := hide_ (HBX.out.below HB6.out)
                  cases pb with
                  | true =>
                    have HP := hide_ (HNV.out.trans (HFT.out nl HIN.out))
                    go_wp2
                    go_roundw
                    case rel => exact ⟨v + 1, A6, n6, c6, by omega, by go_num, rfl, hide_ (by rw [HP.out]; exact HNL6.out), hide_ (by rw [HP.out]; exact own_mono HO6.out hwc), HDW, HBW6⟩
                    case measure => simp [intOf]; omega
                  | false =>
                    have HP := hide_ (HNV.out.trans (HFF.out nl HIN.out))
                    have hp0 := HXB.out.cell 0
                    have hp1 := HXB.out.cell 1
                    simp at hp0 hp1
                    have hyr : y < wr.heap.size := by omega
                    have HCV := hide_ (show pv nl ++ pv [(ph, x)] = pv (nl ++ [(ph, x)]) by rw [pv_append])
                    have HNL2 := hide_ (show (nl ++ [(ph, x)]).length = n6 + 1 by rw [List.length_append, HNL6.out]; rfl)
                    have HOP := hide_ (HO6.out.alloc (.cells #[.int .u64 (ph : Nat), .int .u8 (x.toNat : Int)] 65))
                    have HBP := hide_ ((Below.refl wc.heap.size wr).alloc hs6 (.cells #[.int .u64 (ph : Nat), .int .u8 (x.toNat : Int)] 65))
                    go_wp2_with (at_builtin; refine wpList_append_cells _ rfl _ _ 58 rfl wc.heap.size 65 _ 2 16 pt_info rfl (by omega) Try.underlying58 _ n6 (pv nl) rfl HOP.out (wr.heap.size + 1) (some ⟨wr.heap.size, 0, none⟩) 1 1 (pv [(ph, x)]) rfl rfl (sees_box wr #[.int .u64 (ph : Nat), .int .u8 (x.toNat : Int)] 65 (pv [(ph, x)]) rfl) (pv_one _) (by omega) (by omega) (by simp; omega) (n6 + 1) rfl _ HCV.out ?_; intro A9 c9 w9 hown hb3; have HO9 := hide_ hown; have HB9 := hide_ hb3; clear hown hb3)
                    have HB99 := hide_ (HBP.out.trans HB9.out)
                    have HDW9 := hide_ (own_below HDC.out (HB6.out.trans HB99.out))
                    go_roundw
                    case rel => exact ⟨v + 1, A9, n6 + 1, c9, by omega, by go_num, rfl, hide_ (by rw [HP.out]; exact HNL2.out), hide_ (by rw [HP.out]; exact own_mono HO9.out hwc), HDW9, hide_ (HBW.out.trans ((HB6.out.trans HB99.out).mono hwc))⟩
                    case measure => simp [intOf]; omega
          · obtain rfl : v = 8 := by omega
            rw [HEND.out] at HN5 HO5
            go_wp2
            go_roundw
            case rel => exact ⟨k + 1, A5, n5, c5, A4, n2 + 1, c4, by omega, by go_num, rfl, rfl, HN5, HM4, HO5, HD5, HB5⟩
            case measure => simp [intOf]; omega
    · obtain rfl : k = l.length := by omega
      rw [HFIN.out] at HN HO
      go_wp2
      go_ret
      exact ⟨_, _, _, rfl, HN.out, HO.out, HB.out⟩
end Go.Proofs.Ytlcgihdphdkhpaa
