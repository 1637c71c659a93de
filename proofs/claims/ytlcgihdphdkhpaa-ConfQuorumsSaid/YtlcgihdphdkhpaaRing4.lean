/-
  The contract of ring's along: the nodes of the points that are searched for, each once, as many as there is room for.
-/
import Derived.Test.YtlcgihdphdkhpaaRing3
import Derived.Test.YtlcgihdphdkhpaaCopy7
import Derived.Deep.RegionLaw
namespace Go.Proofs.Ytlcgihdphdkhpaa
open Go.RowKit

/-- what a walk has in its block -/
def wkC (S : List UInt8) (many : Int) (v : Value) : Array Value := metC S ++ #[.int .i64 many, v]
theorem wkC_size (S : List UInt8) (many : Int) (v : Value) : (wkC S many v).size = 258 := by simp [wkC, metC_size]
theorem wkC_met (S : List UInt8) (many : Int) (v : Value) (n : Nat) (h : n < 256) : (wkC S many v)[n]? = some (.bool (S.contains (UInt8.ofNat n))) := by
  rw [wkC, Array.getElem?_append_left (by rw [metC_size]; exact h), metC_get _ _ h]
theorem wkC_many (S : List UInt8) (many : Int) (v : Value) : (wkC S many v)[256]? = some (.int .i64 many) := by
  rw [wkC, Array.getElem?_append_right (by rw [metC_size]; omega), metC_size]
  rfl
theorem wkC_row (S : List UInt8) (many : Int) (v : Value) : (wkC S many v)[257]? = some v := by
  rw [wkC, Array.getElem?_append_right (by rw [metC_size]; omega), metC_size]
  rfl
theorem wkC_first (S : List UInt8) (many : Int) (v : Value) (n : UInt8) : (wkC S many v).setIfInBounds n.toNat (.bool true) = wkC (nubStep S n) many v := by
  unfold wkC
  rw [Array.setIfInBounds_append_left (by rw [metC_size]; exact n.toNat_lt), metC_set]
theorem wkC_put (S : List UInt8) (many : Int) (v v' : Value) : (wkC S many v).setIfInBounds 257 v' = wkC S many v' := by
  unfold wkC
  rw [Array.setIfInBounds_append_right (by rw [metC_size]; omega), metC_size]
  rfl

theorem u8s_info : (Try.prog.info? 5).map (fun i => (i.zero, i.size, i.bytes)) = some (some (.int .u8 0), 1, 1) := u8_info

set_option maxRecDepth 100000 in
set_option maxHeartbeats 1600000 in
theorem along_any (q : Pt → Bool) (pl f z g lo : Nat) (ring : List Pt) (acc : List UInt8) (many : Int) (B : Nat) (R : Option Addr) (m rc : Nat) (A : Option Addr) (c : Nat) (w : World)
    (he : ∀ args w, (callFunc f args).run Try.prog w = .ok (.enter f args) w)
    (hf : ∀ (p : Pt) (u : World), u.cell? ⟨z, 0, none⟩ = some (.int .u64 (pl : Nat)) → Calls Try.prog f #[.agg #[.int .u64 (p.1 : Nat), .int .u8 (p.2.toNat : Int)], .pointer (some ⟨z, 0, none⟩)] u fun e w' => e = .returned (.bool (q p)) ∧ Below u.heap.size u w')
    (hm : ring.length = m) (hm2 : m ≤ 1000) (ha : acc.length ≤ 1000) (hR : Sees w B R (pv ring)) (hz : z < g) (hB : B ≤ g) (hg : g < lo) (hlo : lo ≤ w.heap.size) (hcz : w.cell? ⟨z, 0, none⟩ = some (.int .u64 (pl : Nat)))
    (hbox : BoxAt w g (wkC acc many (.slice A acc.length c)) 71) (hown : w.ownsRow lo 5 1 (.slice A acc.length c) acc.length (bv acc)) :
    Calls Try.prog 52 #[.pointer (some ⟨g, 0, none⟩), .slice R m rc, .func (.func f) #[] #[.pointer (some ⟨z, 0, none⟩)]] w fun e w' =>
      e = .returned (.tuple #[]) ∧ ∃ A' c', BoxAt w' g (wkC (walkK many q acc ring) many (.slice A' (walkK many q acc ring).length c')) 71 ∧
        w'.ownsRow lo 5 1 (.slice A' (walkK many q acc ring).length c') (walkK many q acc ring).length (bv (walkK many q acc ring)) ∧ Below g w w' := by
  subst hm
  have HR := hide_ hR
  have HF := hide_ hf
  have HZ0 := hide_ hcz
  have HX0 := hide_ hbox
  have HO0 := hide_ hown
  have HSTEP := hide_ (fun k (hk : k < ring.length) => walkK_take many q acc ring k hk)
  have HFIN := hide_ (show walkK many q acc (ring.take ring.length) = walkK many q acc ring by rw [List.take_length])
  have HREST := hide_ (fun k (h : ¬ ((walkK many q acc (ring.take k)).length : Int) < many) => walkK_rest (ring := ring) (k := k) h)
  clear hR hf hcz hbox hown
  go_enter Try.func52, Try.ntmps52
  go_wp2
  go_loopw [10] (fun i wx => ∃ (k : Nat) (A' : Option Addr) (n' c' : Nat), k ≤ ring.length ∧ i = .int .i64 k ∧ Hid ((walkK many q acc (ring.take k)).length = n') ∧ n' ≤ 1000 + k ∧ Hid (BoxAt wx g (wkC (walkK many q acc (ring.take k)) many (.slice A' n' c')) 71) ∧
    Hid (wx.ownsRow lo 5 1 (.slice A' n' c') n' (bv (walkK many q acc (ring.take k)))) ∧ Hid (Below g w wx)) (fun i _ => ring.length - (intOf i).toNat)
  case atStart => exact ⟨0, A, acc.length, c, by omega, rfl, hide_ rfl, by omega, HX0, HO0, hide_ (Below.refl _ _)⟩
  case round =>
    obtain ⟨k, A', n', c', hk, rfl, HN, hn', HX, HO, HB⟩ := hrel
    by_cases hlt : k < ring.length
    · obtain ⟨b, o, rfl, hbB, hc0, hc1⟩ := (HR.out.below (HB.out.mono hB)).pt hlt
      have hzr : lo ≤ wr.heap.size := Nat.le_trans hlo HB.out.size
      obtain ⟨ac, hac⟩ : ∃ ac, walkK many q acc (ring.take k) = ac := ⟨_, rfl⟩
      have HST := HSTEP.out k hlt
      have HRE := HREST.out k
      rw [hac] at HST HRE HN HX HO
      have HST := hide_ HST
      have HRE := hide_ HRE
      have HAC := hide_ hac
      clear hac
      obtain ⟨p, hp⟩ : ∃ p, ring[k] = p := ⟨_, rfl⟩
      rw [hp] at HST hc0 hc1
      clear hp
      obtain ⟨ph, pn⟩ := p
      simp only at hc0 hc1
      have HX1 := hide_ (HX.out.alloc (.cells #[.int .u64 (ph : Nat), .int .u8 (pn.toNat : Int)] 65))
      have HP1 := hide_ (BoxAt.new wr #[.int .u64 (ph : Nat), .int .u8 (pn.toNat : Int)] 65)
      have HO1 := hide_ (HO.out.alloc (.cells #[.int .u64 (ph : Nat), .int .u8 (pn.toNat : Int)] 65))
      have HB1 := hide_ (HB.out.alloc (by omega) (.cells #[.int .u64 (ph : Nat), .int .u8 (pn.toNat : Int)] 65))
      obtain ⟨W1, hW1⟩ : ∃ W1, wr.alloc (.cells #[.int .u64 (ph : Nat), .int .u8 (pn.toNat : Int)] 65) = W1 := ⟨_, rfl⟩
      obtain ⟨y, hy⟩ : ∃ y, wr.heap.size = y := ⟨_, rfl⟩
      have HW1 := hide_ hW1
      rw [hW1] at HX1 HP1 HO1 HB1
      rw [hy] at HP1 hzr
      have hyW : W1.heap.size = y + 1 := by rw [← hW1]; simp [hy]
      have HY := hide_ hy
      have HF1 := hide_ (fun (u : World) (hu : Below (y + 1) W1 u) => HF.out (ph, pn) u (by rw [hu.cell (p := ⟨z, 0, none⟩) (by show z < y + 1; omega), HB1.out.cell (p := ⟨z, 0, none⟩) hz]; exact HZ0.out))
      clear hW1 hy
      by_cases hfull : (n' : Int) < many
      · have hd : decide (many ≤ (n' : Int)) = false := by simp; omega
        have hw1 := HX1.out.cell 256
        have hw2 := HX1.out.cell 257
        rw [wkC_many] at hw1
        rw [wkC_row] at hw2
        have hg1 : g < W1.heap.size := by omega
        have HFU := hide_ hfull
        clear hfull
        go_upto_region 3 with fail
        rw [HW1.out, HY.out]
        go_quiet (fail)
        have HX2 := hide_ (show BoxAt (W1.drewN nq) g (wkC ac many (.slice A' n' c')) 71 from HX1.out)
        have HP2 := hide_ (show BoxAt (W1.drewN nq) y #[.int .u64 (ph : Nat), .int .u8 (pn.toNat : Int)] 65 from HP1.out)
        have HO2 := hide_ (show (W1.drewN nq).ownsRow lo 5 1 (.slice A' n' c') n' (bv ac) from HO1.out)
        have HB2 := hide_ (dN9 HB1.out nq)
        have HD2 := hide_ (dN9 (Below.refl (y + 1) W1) nq)
        have hs2 : (W1.drewN nq).heap.size = y + 1 := hyW
        obtain ⟨W2, hW2⟩ : ∃ W2, W1.drewN nq = W2 := ⟨_, rfl⟩
        rw [hW2] at HX2 HP2 HO2 HB2 HD2 hs2 ⊢
        clear hW2 hw1 hw2 HX1 HP1 HO1 HB1
        have hp0 := HP2.out.cell 0
        have hp1 := HP2.out.cell 1
        simp at hp0 hp1
        have HFD := hide_ (HF1.out W2.drew HD2.out.drew)
        have HK2 := hide_ (fun (u : World) (hu : Below W2.drew.heap.size W2.drew u) => show u.cell? ⟨y, 0, none⟩ = some (.int .u64 (ph : Nat)) ∧ u.cell? ⟨y, 1, none⟩ = some (.int .u8 (pn.toNat : Int)) from
          ⟨by rw [hu.cell (p := ⟨y, 0, none⟩) (by show y < W2.heap.size; omega)]; exact hp0, by rw [hu.cell (p := ⟨y, 1, none⟩) (by show y < W2.heap.size; omega)]; exact hp1⟩)
        have HB3 := hide_ (fun (u : World) (hu : Below W2.drew.heap.size W2.drew u) => show Below W2.heap.size W2 u from Below.of_drew hu)
        have hgy : g ≠ y := by omega
        have hyg : y ≠ g := by omega
        cases hq : q (ph, pn) with
        | false =>
          have HQ := hide_ (show stepK many q ac (ph, pn) = ac by simp [stepK, hq])
          rw [hq] at HFD
          clear hq
          go_upto_region 4 with fail
          refine wp_region_held_drew (S := fun w' => w'.cell? ⟨y, 0, none⟩ = some (.int .u64 (ph : Nat)) ∧ w'.cell? ⟨y, 1, none⟩ = some (.int .u8 (pn.toNat : Int))) (by kernel_rfl) (HK2.out _ (Below.refl _ _)) (fun hHeld => ?_)
          refine wpAnyH_take (i := 0) (oi := ⟨some 24, _, _, _, _, _⟩) (v := ?v1) rfl (by kernel_rfl) (by kernel_rfl) (by kernel_rfl) (fun _ _ _ h => h) (Or.inl ⟨by rfl, ?hy1⟩) (by assumption) ?rest1
          case hy1 => intro w hSw; (try dsimp only at hSw); go_simp <;> with_reducible rfl
          simp only [Act.put, List.setIfInBounds_toArray, List.set_cons_zero, List.set_cons_succ]
          refine wpAnyH_take (i := 1) (oi := ⟨some 25, _, _, _, _, _⟩) (v := ?v2) rfl (by kernel_rfl) (by kernel_rfl) (by kernel_rfl) (fun _ _ _ h => h) (Or.inl ⟨by rfl, ?hy2⟩) (by assumption) ?rest2
          case hy2 => intro w hSw; (try dsimp only at hSw); go_simp <;> with_reducible rfl
          simp only [Act.put, List.setIfInBounds_toArray, List.set_cons_zero, List.set_cons_succ]
          refine wpAnyH_ready (rs := [2]) (by kernel_rfl) (by simp) ?_
          refine AllReadyH.cons rfl (fun K hK => ?_) AllReadyH.nil
          go_simp
          go_wp2_with fail
          refine HFD.out.mono ?_
          rintro e w1 ⟨rfl, hb1⟩
          have HKK := hide_ (HK2.out w1 hb1)
          have HBB := hide_ (HB3.out w1 hb1)
          clear hb1
          refine hK.out _ _ HKK.out (fun hHeld => ?_)
          clear hK K
          refine wpAnyH_take (i := 3) (oi := ⟨some 27, _, _, _, _, _⟩) (v := ?v3) rfl (by kernel_rfl) (by kernel_rfl) (by kernel_rfl) (fun _ _ _ h => h) (Or.inl ⟨by rfl, ?hy3⟩) (by assumption) ?rest3
          case hy3 => intro w hSw; (try dsimp only at hSw); go_simp <;> with_reducible rfl
          simp only [Act.put, List.setIfInBounds_toArray, List.set_cons_zero, List.set_cons_succ]
          refine wpAnyH_take (i := 4) (oi := ⟨some 28, _, _, _, _, _⟩) (v := undef) rfl (by kernel_rfl) (by kernel_rfl) (by kernel_rfl) (fun _ _ _ h => h) (Or.inr ⟨by rfl, rfl⟩) (by assumption) ?_
          simp only [Act.put, List.setIfInBounds_toArray, List.set_cons_zero, List.set_cons_succ]
          refine wpAnyH_take (i := 5) (oi := ⟨some 29, _, _, _, _, _⟩) (v := undef) rfl (by kernel_rfl) (by kernel_rfl) (by kernel_rfl) (fun _ _ _ h => h) (Or.inr ⟨by rfl, rfl⟩) (by assumption) ?_
          simp only [Act.put, List.setIfInBounds_toArray, List.set_cons_zero, List.set_cons_succ]
          refine wpAnyH_take (i := 6) (oi := ⟨some 30, _, _, _, _, _⟩) (v := undef) rfl (by kernel_rfl) (by kernel_rfl) (by kernel_rfl) (fun _ _ _ h => h) (Or.inr ⟨by rfl, rfl⟩) (by assumption) ?_
          simp only [Act.put, List.setIfInBounds_toArray, List.set_cons_zero, List.set_cons_succ]
          refine wpAnyH_take (i := 7) (oi := ⟨some 31, _, _, _, _, _⟩) (v := undef) rfl (by kernel_rfl) (by kernel_rfl) (by kernel_rfl) (fun _ _ _ h => h) (Or.inr ⟨by rfl, rfl⟩) (by assumption) ?_
          simp only [Act.put, List.setIfInBounds_toArray, List.set_cons_zero, List.set_cons_succ]
          refine wpAnyH_take (i := 8) (oi := ⟨some 32, _, _, _, _, _⟩) (v := undef) rfl (by kernel_rfl) (by kernel_rfl) (by kernel_rfl) (fun _ _ _ h => h) (Or.inr ⟨by rfl, rfl⟩) (by assumption) ?_
          simp only [Act.put, List.setIfInBounds_toArray, List.set_cons_zero, List.set_cons_succ]
          refine wpAnyH_take (i := 9) (oi := ⟨some 33, _, _, _, _, _⟩) (v := undef) rfl (by kernel_rfl) (by kernel_rfl) (by kernel_rfl) (fun _ _ _ h => h) (Or.inr ⟨by rfl, rfl⟩) (by assumption) ?_
          simp only [Act.put, List.setIfInBounds_toArray, List.set_cons_zero, List.set_cons_succ]
          refine wpAnyH_take (i := 10) (oi := ⟨some 34, _, _, _, _, _⟩) (v := ?v4) rfl (by kernel_rfl) (by kernel_rfl) (by kernel_rfl) (fun _ _ _ h => h) (Or.inl ⟨by rfl, ?hy4⟩) (by assumption) ?rest4
          case hy4 => intro w hSw; (try dsimp only at hSw); go_simp <;> with_reducible rfl
          simp only [Act.put, List.setIfInBounds_toArray, List.set_cons_zero, List.set_cons_succ]
          refine wpAnyH_done (by kernel_rfl) ?_ _
          go_wp2
          go_roundw
          case rel => exact ⟨k + 1, A', n', c', by omega, by go_num, hide_ (by rw [HST.out, HQ.out]; exact HN.out), by omega, hide_ (by rw [HST.out, HQ.out]; exact HX2.out.below HBB.out), hide_ (by rw [HST.out, HQ.out]; exact own_below HO2.out HBB.out), hide_ (HB2.out.trans (HBB.out.mono (by omega)))⟩
          case measure => simp [intOf]; omega
        | true =>
          rw [hq] at HFD
          by_cases hin : ac.contains pn = true
          · have HQ := hide_ (show stepK many q ac (ph, pn) = ac by simp only [stepK]; rw [hin]; simp)
            have HFI := hide_ (fun (u : World) (hu : Below W2.heap.size W2 u) => first_any g pn.toNat _ _ true u pn.toNat_lt (HX2.out.below hu) (by rw [wkC_met _ _ _ _ pn.toNat_lt, ← hin]; simp))
            have HNS := hide_ (show nubStep ac pn = ac from nubStep_in (List.contains_iff_mem.1 hin))
            have HZF := hide_ (fun (u : World) (hu : Below W2.heap.size W2 u) => show BoxAt (u.setCell ⟨g, pn.toNat, none⟩ (.bool true)) g (wkC ac many (.slice A' n' c')) 71 ∧ (u.setCell ⟨g, pn.toNat, none⟩ (.bool true)).ownsRow lo 5 1 (.slice A' n' c') n' (bv ac) ∧ Below g w (u.setCell ⟨g, pn.toNat, none⟩ (.bool true)) from
              ⟨by have h := (HX2.out.below hu).set9 pn.toNat (.bool true); rwa [wkC_first, HNS.out] at h,
                own_other9 (own_below HO2.out hu) ((HX2.out.below hu).apart9 (by decide) (own_below HO2.out hu)) (grown_cell9 _ _ _ _),
                (HB2.out.trans (hu.mono (by omega))).grown (grown_cell9 _ _ _ _) (by have := hu.size; omega) (fun j hj => by injection hj with hj; omega)⟩)
            clear hq hin
            go_upto_region 4 with fail
            go_region_held (fun w' => w'.cell? ⟨y, 0, none⟩ = some (.int .u64 (ph : Nat)) ∧ w'.cell? ⟨y, 1, none⟩ = some (.int .u8 (pn.toNat : Int))) (first | go_keep | exact HKK.out)
              (first | (go_at_call 55; refine (HFI.out _ HBB.out).mono ?_; rintro e w3 ⟨rfl, rfl⟩) | (refine HFD.out.mono ?_; rintro e w1 ⟨rfl, hb1⟩; have HKK := hide_ (HK2.out w1 hb1); have HBB := hide_ (HB3.out w1 hb1); clear hb1))
            obtain ⟨z1, z2, z3⟩ := HZF.out _ HBB.out
            have Z1 := hide_ z1
            have Z2 := hide_ z2
            have Z3 := hide_ z3
            clear z1 z2 z3
            go_wp2
            go_roundw
            case rel => exact ⟨k + 1, A', n', c', by omega, by go_num, hide_ (by rw [HST.out, HQ.out]; exact HN.out), by omega, hide_ (by rw [HST.out, HQ.out]; exact Z1.out), hide_ (by rw [HST.out, HQ.out]; exact Z2.out), Z3⟩
            case measure => simp [intOf]; omega
          · have hin' : ac.contains pn = false := by simpa using hin
            have hni : pn ∉ ac := fun h => hin (List.contains_iff_mem.2 h)
            have HQ := hide_ (show stepK many q ac (ph, pn) = ac ++ [pn] by
              have hl : (ac.length : Int) < many := by rw [HN.out]; exact HFU.out
              simp [stepK, hq, hl, hni])
            have HFI := hide_ (fun (u : World) (hu : Below W2.heap.size W2 u) => first_any g pn.toNat _ _ false u pn.toNat_lt (HX2.out.below hu) (by rw [wkC_met _ _ _ _ pn.toNat_lt, ← hin']; simp))
            have HNS := hide_ (show nubStep ac pn = ac ++ [pn] from nubStep_out hni)
            have HZF := hide_ (fun (u : World) (hu : Below W2.heap.size W2 u) => show BoxAt (u.setCell ⟨g, pn.toNat, none⟩ (.bool true)) g (wkC (ac ++ [pn]) many (.slice A' n' c')) 71 ∧ (u.setCell ⟨g, pn.toNat, none⟩ (.bool true)).ownsRow lo 5 1 (.slice A' n' c') n' (bv ac) ∧ Below g w (u.setCell ⟨g, pn.toNat, none⟩ (.bool true)) ∧
                BoxAt (u.setCell ⟨g, pn.toNat, none⟩ (.bool true)) y #[.int .u64 (ph : Nat), .int .u8 (pn.toNat : Int)] 65 from
              ⟨by have h := (HX2.out.below hu).set9 pn.toNat (.bool true); rwa [wkC_first, HNS.out] at h,
                own_other9 (own_below HO2.out hu) ((HX2.out.below hu).apart9 (by decide) (own_below HO2.out hu)) (grown_cell9 _ _ _ _),
                (HB2.out.trans (hu.mono (by omega))).grown (grown_cell9 _ _ _ _) (by have := hu.size; omega) (fun j hj => by injection hj with hj; omega),
                (Below.heap_setCell _ ⟨g, pn.toNat, none⟩ _ y (by show y ≠ g; exact hyg)).trans (HP2.out.below hu)⟩)
            clear hq hin hin' hni
            go_upto_region 4 with fail
            go_region_held (fun w' => w'.cell? ⟨y, 0, none⟩ = some (.int .u64 (ph : Nat)) ∧ w'.cell? ⟨y, 1, none⟩ = some (.int .u8 (pn.toNat : Int))) (first | go_keep | exact HKK.out)
              (first | (go_at_call 55; refine (HFI.out _ HBB.out).mono ?_; rintro e w3 ⟨rfl, rfl⟩) | (refine HFD.out.mono ?_; rintro e w1 ⟨rfl, hb1⟩; have HKK := hide_ (HK2.out w1 hb1); have HBB := hide_ (HB3.out w1 hb1); clear hb1))
            obtain ⟨z1, z2, z3, z4⟩ := HZF.out _ HBB.out
            obtain ⟨W3, hW3⟩ : ∃ W3, w1.setCell ⟨g, pn.toNat, none⟩ (.bool true) = W3 := ⟨_, rfl⟩
            rw [hW3] at z1 z2 z3 z4 ⊢
            clear hW3 HZF HFI HFD HF1 HK2 HB3 HBB HKK hp0 hp1 HX2 HP2 HO2 HB2 HD2
            have hg3 : g < W3.heap.size := z1.lt
            have hy3 : y < W3.heap.size := z4.lt
            have hlo3 : lo ≤ W3.heap.size := by omega
            obtain ⟨W4, hW4⟩ : ∃ W4, (W3.alloc (.cells #[.int .u8 (pn.toNat : Int)] 5)).drew = W4 := ⟨_, rfl⟩
            have hb4 : Below W3.heap.size W3 W4 := hW4 ▸ ((Below.refl _ _).alloc (Nat.le_refl _) _).drew
            have hs4 : Sees W4 (W3.heap.size + 1) (some ⟨W3.heap.size, 0, none⟩) (bv [pn]) := by
              have h := sees_box W3 #[.int .u8 (pn.toNat : Int)] 5 (bv [pn]) rfl
              rw [← hW4]
              exact h
            have hx4 := z1.below hb4
            have ho4 := own_below z2 hb4
            obtain ⟨A7, c7, W7, hrun, ho7, hg7, hn7⟩ := run_append_named (P := Try.prog) W4 lo 23 5 _ 1 1 u8_info rfl (by omega) Try.underlying23 A' n' c' (bv ac) ho4 (W3.heap.size + 1) (some ⟨W3.heap.size, 0, none⟩) 1 1 (bv [pn]) rfl hs4 (bv_oneCell _) (by omega) (by omega) (by have := hb4.size; omega)
            have hx7 : BoxAt W7 g (wkC (ac ++ [pn]) many (.slice A' n' c')) 71 := hx4.grown9 (by decide) ho4 hg7
            have hg7' : g < W7.heap.size := hx7.lt
            rw [← bv_append] at ho7
            obtain ⟨W8, hW8⟩ : ∃ W8, W7.setCell ⟨g, 257, none⟩ (.slice A7 (n' + 1) c7) = W8 := ⟨_, rfl⟩
            have HX8 := hide_ (show BoxAt W8 g (wkC (ac ++ [pn]) many (.slice A7 (n' + 1) c7)) 71 by
              have h := hx7.set9 257 (.slice A7 (n' + 1) c7)
              rw [wkC_put, hW8] at h
              exact h)
            have HO8 := hide_ (show W8.ownsRow lo 5 1 (.slice A7 (n' + 1) c7) (n' + 1) (bv (ac ++ [pn])) from hW8 ▸ own_other9 ho7 (hx7.apart9 (by decide) ho7) (grown_cell9 _ _ _ _))
            have HB8 := hide_ (show Below g w W8 from hW8 ▸ ((z3.trans (hb4.mono (by omega))).grown hg7 (by have := hb4.size; omega) (fun j hj => by have := (ho4.lt j hj).1; omega)).grown (grown_cell9 _ _ _ _) (by omega) (fun j hj => by injection hj with hj; omega))
            have hw2 := z1.cell 257
            have hp1 := z4.cell 1
            rw [wkC_row] at hw2
            simp at hp1
            have hc7 := hx7.cell 257
            rw [wkC_row] at hc7
            have hf7 := hx7.free9 257
            have hfz := z1.free9 257
            have HW8 := hide_ hW8
            have hrun2 := hrun
            rw [← hW4] at hrun2
            clear hW4 hW8 hb4 hs4 hx4 ho4 hx7 ho7 hg7 hn7 z1 z2 z3 z4 hrun
            go_upto_region 5 with fail
            go_region_law (refine step_append_known rfl _ _ 23 rfl _ _ (by simp [Act.eval]) (by simp [Act.eval]) hrun2 ?_)
            all_goals
              rw [HW8.out]
              go_wp2
              go_roundw
              case rel => exact ⟨k + 1, A7, n' + 1, c7, by omega, by go_num, hide_ (by rw [HST.out, HQ.out, List.length_append, HN.out]; rfl), by omega, hide_ (by rw [HST.out, HQ.out]; exact HX8.out), hide_ (by rw [HST.out, HQ.out]; exact HO8.out), HB8⟩
              case measure => simp [intOf]; omega
      · have HEND := hide_ (HRE.out (by rw [HN.out]; omega))
        have hd : decide (many ≤ (n' : Int)) = true := by simp; omega
        have hw1 := HX1.out.cell 256
        have hw2 := HX1.out.cell 257
        rw [wkC_many] at hw1
        rw [wkC_row] at hw2
        have hg1 : g < W1.heap.size := by omega
        clear hfull
        go_upto_region 3 with fail
        rw [HW1.out, HY.out]
        go_quiet (fail)
        go_wp2
        have HN := HN.out
        subst HN
        rw [← HEND.out]
        (try simp only [Exit.inBlock, Exit.then]); refine bodyPost_ret (results_none rfl _ _ _) rfl ?_
        exact ⟨rfl, _, _, HX1.out, HO1.out, dN9 HB1.out _⟩
    · obtain rfl : k = ring.length := by omega
      rw [HFIN.out] at HN HX HO
      have HN := HN.out
      subst HN
      go_wp2
      go_end0
      exact ⟨rfl, _, _, HX.out, HO.out, HB.out⟩
end Go.Proofs.Ytlcgihdphdkhpaa
