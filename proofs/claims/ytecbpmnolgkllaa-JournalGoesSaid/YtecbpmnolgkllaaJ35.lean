/-
  Texts of this claim put together: Jn2.
-/
import Derived.Test.YtecbpmnolgkllaaJ34
import Derived.BigQuiet
import Derived.Deep.DeepCutAuto
/-
  Contracts of the journal's reading: sectors, frames, seals.
-/
namespace Go.Proofs.Ytecbpmnolgkllaa
open Go.RowKit

/-- a calm disk's sector is read -/
theorem Read_calm {w : World} {L : Lay} {D : Dk} (h : DiskAt w L D) (hc : D.calm) (hw : D.waits = []) {i : Nat} (hi : i < D.c) :
    Calls Try.prog 83 #[.pointer (some ⟨L.b, 0, none⟩), .int .i64 (i : Int)] w fun e w' => ∃ A c, e = .returned (.tuple #[.slice A D.n c, .int .i64 0]) ∧ w'.ownsRow w.heap.size 5 1 (.slice A D.n c) D.n (bv (D.kept i)) ∧ Below w.heap.size w w' := by
  have hr := Read_any h (i : Int)
  unfold ReadR at hr
  rw [read_on hc.1 (by omega) (by omega), rd_none hc.1 hw hi, h.ok.k] at hr
  exact hr

/-- sectors of a calm disk, one behind the other -/
theorem read_any {w : World} {L : Lay} {D : Dk} (h : DiskAt w L D) (hc : D.calm) (hw : D.waits = []) (a k : Nat) (hak : a + k ≤ D.c) :
    Calls Try.prog 50 #[.pointer (some ⟨L.b, 0, none⟩), .int .i64 (a : Int), .int .i64 (k : Int)] w (Puts w (secs D.kept a k)) := by
  have hcc := h.ok.c2
  have hnn := h.ok.n2
  have HSL := hide_ (fun j => secs_len h.ok.k a j)
  have HRD := hide_ (fun (u : World) (hu : Below w.heap.size w u) (j : Nat) (hj : j < k) => show Calls Try.prog 83 #[.pointer (some ⟨L.b, 0, none⟩), .int .i64 ((a : Int) + (j : Int))] u _ from Read_calm (h.below hu) hc hw (show a + j < D.c from by omega))
  have HKL := hide_ h.ok.k
  have hkc : k ≤ 4096 := by omega
  have hac : a ≤ 4096 := by omega
  have H512 := hide_ (show ∀ j, j ≤ 4096 → j * D.n ≤ 2097152 from fun j hj => by
    have := Nat.mul_le_mul hj hnn
    omega)
  clear h hw hc hcc hak hnn
  go_enter Try.func50, Try.ntmps50
  go_wp2
  go_loopw [7, 12] (fun v i wr => ∃ (j z : Nat) (A : Option Addr) (c : Nat), j ≤ k ∧ i = .int .i64 (j : Int) ∧ v = .slice A z c ∧ Hid ((secs D.kept a j).length = z) ∧ Hid (wr.ownsRow w.heap.size 5 1 (.slice A z c) z (bv (secs D.kept a j))) ∧ Hid (Below w.heap.size w wr)) (fun _ i _ => k - (intOf i).toNat)
  case atStart => exact ⟨0, 0, none, 0, Nat.zero_le _, rfl, rfl, hide_ rfl, hide_ (World.ownsRow_nil _ _ _ _), hide_ (Below.refl _ _)⟩
  case round =>
    obtain ⟨j, z, A, c, hj, rfl, rfl, HZ, HO, HB⟩ := hrel
    by_cases hlt : j < k
    · have HR := hide_ (HRD.out wr HB.out j hlt)
      obtain ⟨nn, hnn⟩ : ∃ q, D.n = q := ⟨_, rfl⟩
      rw [hnn] at HR
      have HNN := hide_ hnn
      have HZL := hide_ (show z ≤ 2097152 from by rw [← HZ.out, HSL.out]; exact H512.out j (by omega))
      clear hnn
      go_wp2_with fail
      refine HR.out.mono ?_
      rintro e w1 ⟨A1, c1, rfl, hown1, hb1⟩
      have HO1 := hide_ (own_below HO.out hb1)
      have HB1 := hide_ (HB.out.trans (hb1.mono HB.out.size))
      have HS1 := hide_ (Sees.own hown1)
      have hwb : w.heap.size ≤ w1.heap.size := HB1.out.size
      obtain ⟨r, hr⟩ : ∃ r, secs D.kept a (j + 1) = r := ⟨_, rfl⟩
      obtain ⟨z2, hz2⟩ : ∃ z, r.length = z := ⟨_, rfl⟩
      have HR2 := hide_ hr
      have HZ2 := hide_ hz2
      clear hown1 hb1 hr hz2
      go_wp2_with (at_builtin; refine wpList_append_bytes _ rfl _ _ 38 rfl w.heap.size 5 u8_info Try.underlying38 _ z (secs D.kept a j) (D.kept (a + j)) r (by rw [← HR2.out, secs_succ]) rfl HO1.out w1.heap.size A1 nn c1 rfl (by rw [HKL.out, HNN.out]) HS1.out (by have := HZL.out; have := H512.out 1 (by omega); have := HNN.out; omega) hwb ?_; rw [HZ2.out]; intro A2 c2 w2 hown2 hb2)
      go_roundw
      case rel => exact ⟨j + 1, z2, A2, c2, by omega, by go_num, rfl, by rw [HR2.out]; exact HZ2, by rw [HR2.out]; exact hide_ hown2, hide_ (HB1.out.trans hb2)⟩
      case measure => simp [intOf]; omega
    · obtain rfl : j = k := by omega
      go_wp2
      go_ret
      exact ⟨A, c, by rw [HZ.out]; exact rfl, by rw [HZ.out]; exact HO.out, HB.out⟩

/-- a frame's head, read -/
theorem head_ends {m : Nat} (h : m < 65536) : (6 : Int) + ((UInt8.ofNat (m / 256)).toNat : Int) * 256 + ((UInt8.ofNat m).toNat : Int) = ((m + 6 : Nat) : Int) := by
  have e1 : (UInt8.ofNat (m / 256)).toNat = m / 256 := toNat_of (by omega)
  have e2 : (UInt8.ofNat m).toNat = m % 256 := by simp
  rw [e1, e2]
  omega

set_option maxRecDepth 100000 in
theorem getFrame_right {w : World} {L : Lay} {D : Dk} (h : DiskAt w L D) (hc : D.calm) (hw : D.waits = []) (a z : Nat) (b : List UInt8) (hb : b.length ≤ 60000) (hs : secs D.kept a (secN (b.length + 10) D.n) = frameB b D.n) (hz : a + secN (b.length + 10) D.n ≤ z) (hzc : z ≤ D.c) :
    Calls Try.prog 81 #[.pointer (some ⟨L.b, 0, none⟩), .int .i64 (a : Int), .int .i64 (z : Int)] w fun e w' => ∃ A c, e = .returned (.tuple #[.slice A b.length c, .int .i64 (secN (b.length + 10) D.n : Int)]) ∧ Sees w' w'.heap.size A (bv b) ∧ Below w.heap.size w w' := by
  have hcc := h.ok.c2
  have hn1 := h.ok.n1
  have hn2 := h.ok.n2
  have hp := secN_pos (m := b.length + 10) (n := D.n) (by omega) (by omega)
  have H1 := hide_ (show Calls Try.prog 50 #[.pointer (some ⟨L.b, 0, none⟩), .int .i64 (a : Int), .int .i64 1] w (Puts w (secs D.kept a 1)) from read_any h hc hw a 1 (by omega))
  have HSZ := hide_ (fun (u : World) (hu : Below w.heap.size w u) => show Calls Try.prog 31 #[.pointer (some ⟨L.b, 0, none⟩)] u fun e w' => e = .returned (.int .i64 (D.n : Int)) ∧ u = w' from Size_any (h.below hu))
  have HRD := hide_ (fun (u : World) (hu : Below w.heap.size w u) => read_any (h.below hu) hc hw a (secN (b.length + 10) D.n) (by omega))
  have HFL := hide_ (frameB_len (b := b) (n := D.n) (by omega))
  have h6 : (D.kept a).take 6 = headB (b.length + 4) := by
    have e1 : secs D.kept a 1 = (frameB b D.n).take (1 * D.n) := by
      rw [← hs]
      obtain ⟨q, hq⟩ : ∃ q, secN (b.length + 10) D.n = 1 + q := ⟨secN (b.length + 10) D.n - 1, by omega⟩
      rw [hq]
      exact (secs_take h.ok.k a 1 q).symm
    rw [secs_one] at e1
    rw [e1, List.take_take, show min 6 (1 * D.n) = 6 from by omega, frameB_head]
  have H6 := hide_ (show (secs D.kept a 1).take 6 = headB (b.length + 4) from by rw [secs_one]; exact h6)
  have HL1 := hide_ (show (secs D.kept a 1).length = D.n from by rw [secs_one, h.ok.k])
  obtain ⟨n, hn⟩ : ∃ n, D.n = n := ⟨_, rfl⟩
  obtain ⟨bc, hbc⟩ : ∃ bc, L.b = bc := ⟨_, rfl⟩
  obtain ⟨m, hm⟩ : ∃ m, b.length = m := ⟨_, rfl⟩
  obtain ⟨q, hq⟩ : ∃ q, secN (m + 10) n = q := ⟨_, rfl⟩
  have HS := hide_ hs
  have HM := hide_ hm
  have HQ := hide_ hq
  rw [hm, hn, hq] at HFL HRD HS hz hp
  rw [hn] at HSZ HL1 hn1 hn2
  rw [hbc] at H1 HSZ HRD
  rw [hbc, hm, hn, hq]
  rw [hm] at H6 hb
  clear h6 hm hn hbc hq hs h hc hw
  go_enter Try.func81, Try.ntmps81
  go_wp2_with fail
  refine H1.out.mono ?_
  rintro e w1 ⟨A1, c1, rfl, hown1, hb1⟩
  rw [HL1.out] at hown1 ⊢
  have hcap := own_cap hown1
  have HF := hide_ (Fits_to ((secs D.kept a 1).take 6) [UInt8.ofNat ((m + 4) / 256), UInt8.ofNat (m + 4)] 0 A1 6 c1 w1 (by rw [H6.out]; exact fitsL_mark _) (by rw [H6.out, headB_len]) (by omega) (by rw [bv_take]; exact (Sees.own hown1).take 6) (by omega))
  have HB1 := hide_ hb1
  clear hown1 hb1 H1
  go_wp2_with fail
  refine HF.out.mono ?_
  rintro e w2 ⟨A2, n2, c2, rfl, hn2', hs2, hb2⟩
  obtain rfl : n2 = 2 := by simpa using hn2'.symm
  obtain ⟨hb0, ho0, rfl, hbl, hfl⟩ := hs2.flat (by simp [bv])
  have x0 := hfl 0 _ (by simp [bv]; rfl)
  have x1 := hfl 1 _ (by simp [bv]; rfl)
  simp only [Nat.add_zero] at x0
  have HB2 := hide_ (HB1.out.trans (hb2.mono HB1.out.size))
  clear hn2' hs2 hb2 hfl HF HB1
  obtain ⟨hi, hhi⟩ : ∃ hi, (m + 4) / 256 = hi := ⟨_, rfl⟩
  obtain ⟨lo, hlo⟩ : ∃ lo, (m + 4) % 256 = lo := ⟨_, rfl⟩
  rw [show ((m : Int) + 4) / 256 % 256 = (hi : Int) from by omega] at x0
  rw [show ((m : Int) + 4) % 256 = (lo : Int) from by omega] at x1
  have hhl : hi * 256 + lo = m + 4 := by omega
  have hh1 : hi < 256 := by omega
  have hh2 : lo < 256 := by omega
  clear hhi hlo
  go_upto_region 4 with fail
  go_quiet (fail)
  obtain ⟨e, he⟩ : ∃ e, m + 10 = e := ⟨_, rfl⟩
  rw [show (6 : Int) + (hi : Int) * 256 + (lo : Int) = (e : Int) from by omega]
  obtain ⟨W3, hW3⟩ : ∃ u, w2.drewN nq = u := ⟨_, rfl⟩
  have HB3 := hide_ (HB2.out.trans (hW3 ▸ below_dN (Below.refl _ _) nq : Below w.heap.size w2 W3))
  have HE := hide_ he
  have HS2 := hide_ (HSZ.out W3 HB3.out)
  have HSF := hide_ (sectorsFor_any e n W3 (by omega) (by omega) (by omega))
  rw [show secN e n = q from by rw [← he]; exact HQ.out] at HSF
  have HR3 := hide_ (HRD.out W3 HB3.out)
  rw [hW3]
  have hle : e ≤ q * n := by
    have := secN_ge (m := m + 10) (n := n) (by omega)
    rw [HQ.out] at this
    omega
  have hqn : q * n ≤ 2097152 := by
    have := Nat.mul_le_mul (show q ≤ 4096 from by omega) hn2
    omega
  have hno : ¬ ((z : Int) - (a : Int) < (q : Int)) := by omega
  clear hW3 HB2 x0 x1 hh1 hh2 hhl HRD HSZ
  go_wp2_with (first | (go_at_call 31; refine HS2.out.mono ?_; rintro _ _ ⟨rfl, rfl⟩) | (go_at_call 92; refine HSF.out.mono ?_; rintro _ _ ⟨rfl, rfl⟩) | (go_at_call 50; refine HR3.out.mono ?_; rintro _ w4 ⟨A4, c4, rfl, hown4, hb4⟩; (have HB4 := hide_ (HB3.out.trans (hb4.mono HB3.out.size))); (have HLN := hide_ (show (secs D.kept a q).length = q * n from by rw [HS.out]; exact HFL.out)); (obtain ⟨g4, rfl, _, hcap4, hrow4⟩ := own_row hown4 rfl (by rw [HLN.out]; omega)); (have HW4 := hide_ hrow4); (rw [HLN.out] at hcap4 ⊢); (obtain ⟨k, hk⟩ : ∃ k, q * n = k := ⟨_, rfl⟩); (rw [hk] at hcap4 hle hqn ⊢); (have HKK := hide_ hk); clear hown4 hb4 hk hrow4))
  have hsm : Sees w4 w4.heap.size (some ⟨g4, 6, none⟩) (bv (markB b)) := by
    have h1 := HW4.out.sees.drop 6 c4 (by rw [bv_length, HS.out, HFL.out, HKK.out]; omega)
    rw [if_neg (by omega)] at h1
    have h2 := h1.take (m + 4)
    rw [← bv_drop, ← bv_take, HS.out] at h2
    have h3 := frameB_own (b := b) (n := n)
    rw [HM.out, List.drop_take] at h3
    rw [show m + 4 = m + 10 - 6 from by omega, h3] at h2
    exact h2
  have HF := hide_ (Fits_to (markB b) b 0 (some ⟨g4, 6, none⟩) (e - 6) (c4 - 6) w4 (fitsL_mark b) (by rw [markB_length, HM.out]; omega) (by omega) hsm (by omega))
  clear hsm
  go_wp2_with fail
  refine HF.out.mono ?_
  rintro _ w5 ⟨A5, n5, c5, rfl, hn5, hs5, hb5⟩
  obtain rfl : n5 = m := hn5.symm.trans HM.out
  have HS5 := hide_ hs5
  have HB5 := hide_ (HB4.out.trans (hb5.mono HB4.out.size))
  clear hs5 hb5 HF hn5
  go_wp2
  refine bodyPost_ret (v := .tuple #[.slice A5 n5 c5, .int .i64 (q : Int)]) (by simp [results, Try.results81, go_sem]) rfl ?_
  exact ⟨A5, c5, rfl, HS5.out, HB5.out⟩

theorem zeros_none : fitsL (List.replicate 6 (0 : UInt8)) = ([], 5) := by
  refine fitsL_no (by simp) ?_
  unfold markB
  decide +kernel
set_option maxRecDepth 100000 in
theorem getFrame_zero {w : World} {L : Lay} {D : Dk} (h : DiskAt w L D) (hc : D.calm) (hw : D.waits = []) (a z : Nat) (hs : D.kept a = List.replicate D.n 0) (hac : a < D.c) :
    Calls Try.prog 81 #[.pointer (some ⟨L.b, 0, none⟩), .int .i64 (a : Int), .int .i64 (z : Int)] w fun e w' => e = .returned (.tuple #[.slice none 0 0, .int .i64 0]) ∧ Below w.heap.size w w' := by
  have hn1 := h.ok.n1
  have hn2 := h.ok.n2
  have H1 := hide_ (show Calls Try.prog 50 #[.pointer (some ⟨L.b, 0, none⟩), .int .i64 (a : Int), .int .i64 1] w (Puts w (secs D.kept a 1)) from read_any h hc hw a 1 (by omega))
  have H6 := hide_ (show (secs D.kept a 1).take 6 = List.replicate 6 0 from by rw [secs_one, hs, List.take_replicate]; congr 1; omega)
  have HL1 := hide_ (show (secs D.kept a 1).length = D.n from by rw [secs_one, h.ok.k])
  obtain ⟨n, hn⟩ : ∃ n, D.n = n := ⟨_, rfl⟩
  obtain ⟨bc, hbc⟩ : ∃ bc, L.b = bc := ⟨_, rfl⟩
  rw [hn] at HL1 hn1 hn2
  rw [hbc] at H1
  rw [hbc]
  clear hn hbc hs h hc hw hac
  go_enter Try.func81, Try.ntmps81
  go_wp2_with fail
  refine H1.out.mono ?_
  rintro e w1 ⟨A1, c1, rfl, hown1, hb1⟩
  rw [HL1.out] at hown1 ⊢
  have hcap := own_cap hown1
  have HF := hide_ (Fits_to ((secs D.kept a 1).take 6) [] 5 A1 6 c1 w1 (by rw [H6.out]; exact zeros_none) (by rw [H6.out]; rfl) (by omega) (by rw [bv_take]; exact (Sees.own hown1).take 6) (by omega))
  have HB1 := hide_ hb1
  clear hown1 hb1 H1
  go_wp2_with fail
  refine HF.out.mono ?_
  rintro e w2 ⟨A2, n2, c2, rfl, hn2', hs2, hb2⟩
  have HB2 := hide_ (HB1.out.trans (hb2.mono HB1.out.size))
  clear hn2' hs2 hb2 HF HB1
  go_wp2
  refine bodyPost_ret (v := .tuple #[.slice none 0 0, .int .i64 0]) (by simp [results, Try.results81, go_sem]) rfl ?_
  exact ⟨rfl, HB2.out⟩

theorem isZero_any (k : Nat) (B : Nat) (A : Option Addr) (c : Nat) (w : World) (hk : k ≤ 1000000) (hs : Sees w B A (bv (List.replicate k 0))) (hB : B ≤ w.heap.size) :
    Calls Try.prog 49 #[.slice A k c] w fun e w' => e = .returned (.bool true) ∧ Below w.heap.size w w' := by
  have hmk := make12 k hk w
  obtain ⟨W1, hW1⟩ : ∃ W, w.alloc (.cells (zs12 k) 5) = W := ⟨_, rfl⟩
  have hb : Below w.heap.size w W1 := hW1 ▸ (Below.refl _ _).alloc (Nat.le_refl _) _
  have hr : RowIs W1 w.heap.size (List.replicate k 0) := hW1 ▸ row_new12 w k
  rw [hW1] at hmk
  have HE := hide_ (Equal_any (List.replicate k 0) (List.replicate k 0) true B W1.heap.size A (some ⟨w.heap.size, 0, none⟩) k c k k W1 (zs_len k) (zs_len k) (by simp) (hs.below (hb.mono hB)) hr.sees)
  have HB := hide_ hb
  clear hW1 hb hr hs
  go_enter Try.func49, Try.ntmps49
  go_wp2_with fail
  refine HE.out.mono ?_
  rintro _ _ ⟨rfl, rfl⟩
  go_wp2
  go_ret
  exact ⟨rfl, HB.out⟩
end Go.Proofs.Ytecbpmnolgkllaa
