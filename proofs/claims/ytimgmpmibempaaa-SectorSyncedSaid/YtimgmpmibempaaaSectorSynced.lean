/-
  scrutineerlaw12.SectorSynced answers true for every input and leaves its input as it was; no condition.
-/
import Derived.Test.YtimgmpmibempaaaSolo12
import Derived.BigQuiet
namespace Go.Proofs.Ytimgmpmibempaaa.sectorSynced
open Go.ChangeShapes Go.WideShapes Go.ChangeAt Go.RowKit

theorem walk_long (n c : Int) (s s2 : Sl StM) (ke : Int) (t : Bool) (w : World) (hs : stepsOk w w.heap.size s) (hs2 : stepsOk w w.heap.size s2) (hg : greatD n c s.l = true) :
    Calls Try.prog 4 #[.int .i64 n, .int .i64 c, s.v, s2.v, .int .i64 ke, .bool t] w fun e w' => e = .returned (.bool true) ∧ Below w.heap.size w w' := by
  have HG := hide_ (great12_any n c s w.heap.size w hs)
  have HG2 := hide_ (great12_any n c s2 w.heap.size w hs2)
  rw [hg] at HG; clear hg
  obtain ⟨A, cp, l⟩ := s
  obtain ⟨A2, cp2, l2⟩ := s2
  simp only [Sl.v] at HG HG2 ⊢
  obtain ⟨m, hm⟩ : ∃ m, l.length = m := ⟨_, rfl⟩
  obtain ⟨m2, hm2⟩ : ∃ m2, l2.length = m2 := ⟨_, rfl⟩
  rw [hm] at HG ⊢
  rw [hm2] at HG2 ⊢
  clear hs hs2 hm hm2
  go_enter Try.func4, Try.ntmps4
  go_wp2_with (first | (go_at_call_of 7 m; with_reducible refine HG.out.mono ?_; rintro e wg ⟨rfl, rfl⟩) | (go_at_call 7; with_reducible refine HG2.out.mono ?_; rintro e wg ⟨rfl, rfl⟩) | (go_at_call 8; refine (awake12_any _).mono ?_; rintro e wz ⟨rfl, hbz⟩))
  go_ret
  exact ⟨rfl, hbz⟩

theorem walk_long2 (n c : Int) (s s2 : Sl StM) (ke : Int) (t : Bool) (w : World) (hs : stepsOk w w.heap.size s) (hs2 : stepsOk w w.heap.size s2) (hg : greatD n c s.l = false) (hg2 : greatD n c s2.l = true) :
    Calls Try.prog 4 #[.int .i64 n, .int .i64 c, s.v, s2.v, .int .i64 ke, .bool t] w fun e w' => e = .returned (.bool true) ∧ Below w.heap.size w w' := by
  have HG := hide_ (great12_any n c s w.heap.size w hs)
  have HG2 := hide_ (great12_any n c s2 w.heap.size w hs2)
  rw [hg] at HG; rw [hg2] at HG2; clear hg hg2
  obtain ⟨A, cp, l⟩ := s
  obtain ⟨A2, cp2, l2⟩ := s2
  simp only [Sl.v] at HG HG2 ⊢
  obtain ⟨m, hm⟩ : ∃ m, l.length = m := ⟨_, rfl⟩
  obtain ⟨m2, hm2⟩ : ∃ m2, l2.length = m2 := ⟨_, rfl⟩
  rw [hm] at HG ⊢
  rw [hm2] at HG2 ⊢
  clear hs hs2 hm hm2
  go_enter Try.func4, Try.ntmps4
  go_wp2_with (first | (go_at_call_of 7 m; with_reducible refine HG.out.mono ?_; rintro e wg ⟨rfl, rfl⟩) | (go_at_call 7; with_reducible refine HG2.out.mono ?_; rintro e wg ⟨rfl, rfl⟩) | (go_at_call 8; refine (awake12_any _).mono ?_; rintro e wz ⟨rfl, hbz⟩))
  go_ret
  exact ⟨rfl, hbz⟩

theorem sl8_info : (Try.prog.info? 38).map (fun i => (i.zero, i.size, i.bytes)) = some (some (.slice none 0 0), 1, 24) := by kernel_rfl
/-- k writes -/
def InvS (w : World) (bc n c k : Nat) (wr : World) : Prop := ∃ L D, L.b = bc ∧ Solo w L D wr ∧ D.calm ∧ D.n = n ∧ D.c = c ∧ D.waits.length ≤ k
/-- k writes more, behind what was read -/
def InvM (w : World) (bc n c : Nat) (l2 : List StM) (kp : Nat → List UInt8) (A5 : Option Addr) (c5 : Nat) (Gs : List (Nat × Nat)) (k : Nat) (wr : World) : Prop :=
  ∃ L D, L.b = bc ∧ Solo w L D wr ∧ D.calm ∧ D.n = n ∧ D.c = c ∧ D.waits.length ≤ k ∧ D.kept = kp ∧ (∀ q ∈ D.waits, ∃ j x, j < k ∧ l2[j]? = some x ∧ x.i = (q.1 : Int)) ∧ WasAt w.heap.size n c kp A5 c5 wr Gs ∧ ∀ p ∈ Gs, ¬ L.has p.1
/-- is it among the first so many writes? -/
def hit12 (l2 : List StM) (i : Nat) (k : Nat) : Bool := (l2.take k).any fun x => x.i == (i : Int)
theorem hit_succ {l2 : List StM} {i k : Nat} {x : StM} (h : l2[k]? = some x) : hit12 l2 i (k + 1) = (hit12 l2 i k || x.i == (i : Int)) := by
  unfold hit12
  rw [List.take_add_one, h]
  simp

/-- what one write asks of the step -/
theorem step_cells {w : World} {A : Option Addr} {l : List StM} {k : Nat} (hs : Sees w w.heap.size A (l.flatMap StM.cs)) (hok : ∀ x ∈ l, StM.ok w w.heap.size x) (hk : k < l.length) :
    ∃ b off x, A = some ⟨b, off, none⟩ ∧ b < w.heap.size ∧ l[k]? = some x ∧ w.cell? ⟨b, off + k * 6 + 1, none⟩ = some (.int .i64 x.i) ∧ w.cell? ⟨b, off + k * 6 + 3, none⟩ = some x.b.v ∧ bytesOk w w.heap.size x.b := by
  obtain ⟨x, hx⟩ : ∃ x, l[k]? = some x := ⟨_, List.getElem?_eq_getElem hk⟩
  obtain ⟨b, off, e, hb, _, q1, _, q3, _, _⟩ := hs.st hx
  exact ⟨b, off, x, e, hb, hx, q1, q3, (hok x (List.mem_of_getElem? hx)).2⟩

set_option maxRecDepth 100000 in
set_option maxHeartbeats 3200000 in
theorem walk (n c : Nat) (A : Option Addr) (cp : Nat) (l : List StM) (m : Nat) (A2 : Option Addr) (cp2 : Nat) (l2 : List StM) (m2 : Nat) (ke : Int) (t : Bool) (w : World) (hs : stepsOk w w.heap.size ⟨A, cp, l⟩) (hs2 : stepsOk w w.heap.size ⟨A2, cp2, l2⟩) (hm : l.length = m) (hm2 : l2.length = m2) (hg : greatD n c l = false) (hg2 : greatD n c l2 = false) :
    Calls Try.prog 4 #[.int .i64 (n : Int), .int .i64 (c : Int), .slice A m cp, .slice A2 m2 cp2, .int .i64 ke, .bool t] w fun e w' => e = .returned (.bool true) ∧ Below w.heap.size w w' := by
  have hgr := of_decide_eq_false hg
  have hgr2 := of_decide_eq_false hg2
  have h1 : 64 ≤ n := by have := mt Or.inl hgr; omega
  have h2 : n ≤ 512 := by have := mt (fun h => Or.inr (Or.inl h)) hgr; omega
  have h3 : 1 ≤ c := by have := mt (fun h => Or.inr (Or.inr (Or.inl h))) hgr; omega
  have h4 : c ≤ 40 := by have := mt (fun h => Or.inr (Or.inr (Or.inr (Or.inl h)))) hgr; omega
  have h5 : m ≤ 60 := by have := mt (fun h => Or.inr (Or.inr (Or.inr (Or.inr (Or.inl h))))) hgr; omega
  have h5' : m2 ≤ 60 := by have := mt (fun h => Or.inr (Or.inr (Or.inr (Or.inr (Or.inl h))))) hgr2; omega
  have H6 := hide_ (show ∀ x ∈ l, x.b.l.length ≤ 600 from fun x hx => by
    have := mt (fun h => Or.inr (Or.inr (Or.inr (Or.inr (Or.inr ⟨x, hx, h⟩))))) hgr
    omega)
  have H62 := hide_ (show ∀ x ∈ l2, x.b.l.length ≤ 600 from fun x hx => by
    have := mt (fun h => Or.inr (Or.inr (Or.inr (Or.inr (Or.inr ⟨x, hx, h⟩))))) hgr2
    omega)
  have HG := hide_ (show Calls Try.prog 7 #[.int .i64 (n : Int), .int .i64 (c : Int), .slice A m cp] w fun e w' => e = .returned (.bool false) ∧ w = w' from by
    have := great12_any n c ⟨A, cp, l⟩ w.heap.size w hs
    rwa [hg, Sl.v, hm] at this)
  have HG2 := hide_ (show Calls Try.prog 7 #[.int .i64 (n : Int), .int .i64 (c : Int), .slice A2 m2 cp2] w fun e w' => e = .returned (.bool false) ∧ w = w' from by
    have := great12_any n c ⟨A2, cp2, l2⟩ w.heap.size w hs2
    rwa [hg2, Sl.v, hm2] at this)
  have HS := hide_ hs.2.2.1
  have HS2 := hide_ hs2.2.2.1
  have HOK := hide_ hs.2.2.2
  have HOK2 := hide_ hs2.2.2.2
  simp only at HS HS2 HOK HOK2
  have HM := hide_ hm
  have HM2 := hide_ hm2
  clear hs hs2 hm hm2 hg hg2 hgr hgr2
  go_enter Try.func4, Try.ntmps4
  go_wp2_with (first | (go_at_call_of 7 m; with_reducible refine HG.out.mono ?_; rintro e wg ⟨rfl, rfl⟩) | (go_at_call 7; with_reducible refine HG2.out.mono ?_; rintro e wg ⟨rfl, rfl⟩))
  refine (New_good n c _ h1 h2 h3 (by omega)).mono ?_
  rintro e w1 ⟨L, rfl, hd1, hb1, hs1⟩
  obtain ⟨bc, hbc⟩ : ∃ bc, L.b = bc := ⟨_, rfl⟩
  rw [hbc]
  have HP := hide_ (show InvS w bc n c 0 w1 from ⟨L, makeD n c, hbc, ⟨hd1, hb1, hs1⟩, make_calm n c, rfl, rfl, by simp [makeD]⟩)
  clear hd1 hb1 hs1 hbc HG HG2
  go_wp2
  go_loopw [15] (fun i wr => ∃ k : Nat, k ≤ m ∧ i = .int .i64 (k : Int) ∧ Hid (InvS w bc n c k wr)) (fun i _ => m - (intOf i).toNat)
  case atStart => exact ⟨0, Nat.zero_le _, rfl, HP⟩
  case round =>
    obtain ⟨k, hk, rfl, HI⟩ := hrel
    obtain ⟨L1, D, e1, hp, hca, hdn, hdc, hdw⟩ := HI.out
    have HCA := hide_ hca
    have HDN := hide_ hdn
    have HDC := hide_ hdc
    have HDW := hide_ hdw
    have HPP := hide_ hp
    have E1 := hide_ e1
    clear HI HP e1 hca hdn hdc hdw hp
    by_cases hlt : k < m
    · obtain ⟨b, off, x, rfl, hb, hx, q1, q3, hbk⟩ := step_cells HS.out HOK.out (by rw [HM.out]; exact hlt)
      have h600 := H6.out x (List.mem_of_getElem? hx)
      clear hx
      obtain ⟨xi, hxi⟩ : ∃ xi, x.i = xi := ⟨_, rfl⟩
      obtain ⟨xb, hxb⟩ : ∃ xb, x.b = xb := ⟨_, rfl⟩
      rw [hxi] at q1
      rw [hxb] at q3 hbk h600
      clear hxi hxb
      obtain ⟨xa, xc, xl⟩ := xb
      simp only [Sl.v] at q3
      simp only at h600
      obtain ⟨z, hz⟩ : ∃ z, xl.length = z := ⟨_, rfl⟩
      rw [hz] at q3 h600
      have p1 := (HPP.out.b.cell (p := ⟨b, off + k * 6 + 1, none⟩) hb).trans q1
      have p3 := (HPP.out.b.cell (p := ⟨b, off + k * 6 + 3, none⟩) hb).trans q3
      have HW1 := hide_ (HPP.out.drew.write E1.out xi ⟨xa, xc, xl⟩ hbk (by have := HDW.out; omega) (by rw [hz]; omega) hz)
      clear hbk hz
      go_wp2
      go_region_held (fun u => u.cell? ⟨b, off + k * 6 + 1, none⟩ = some (.int .i64 xi) ∧ u.cell? ⟨b, off + k * 6 + 3, none⟩ = some (.slice xa z xc))
        (first | exact ⟨p1, p3⟩ | exact ⟨s1, s3⟩)
        (first | (go_simp; go_at_call 20; with_reducible refine HW1.out.mono ?_; rintro en w3 ⟨rfl, L3, eb3, hp3, _, _⟩; (have s1 := (hp3.b.cell (p := ⟨b, off + k * 6 + 1, none⟩) hb).trans q1); (have s3 := (hp3.b.cell (p := ⟨b, off + k * 6 + 3, none⟩) hb).trans q3); (have EB3 := hide_ eb3); (have HP3 := hide_ hp3); clear eb3 hp3))
      go_wp2
      go_roundw
      case rel =>
        obtain ⟨w1, w2, w3, w4, _⟩ := write_calm HCA.out xi xl
        refine ⟨k + 1, by omega, by go_num, hide_ ⟨_, _, EB3.out, HP3.out, w1, w2.trans HDN.out, w3.trans HDC.out, by have := HDW.out; omega⟩⟩
      case measure => simp [intOf]; omega
    · obtain rfl : k = m := by omega
      have HSY := hide_ (HPP.out.sync E1.out)
      rw [(sync_calm HCA.out).1] at HSY
      have hsd : (syncD D).calm ∧ (syncD D).waits = [] ∧ (syncD D).n = n ∧ (syncD D).c = c := by
        rw [(sync_calm HCA.out).2]
        exact ⟨HCA.out, rfl, HDN.out, HDC.out⟩
      have HSD := hide_ hsd
      clear hsd
      go_wp2_with (go_at_call 21; refine HSY.out.mono ?_; rintro en w3 ⟨rfl, L3, eb3, hp3, _, _⟩; (have EB3 := hide_ eb3); (have HP3 := hide_ hp3); clear eb3 hp3)
      obtain ⟨D1, hD1⟩ : ∃ D1, syncD D = D1 := ⟨_, rfl⟩
      rw [hD1] at HP3 HSD
      clear hD1 HSY HCA HDN HDC HDW HPP E1 D
      have HRD := hide_ (show ∀ j : Nat, j < c → reachD D1 j = 0 ∧ rdB D1 j = D1.kept j ∧ (rdB D1 j).length = n from fun j hj => by
        obtain ⟨ca, hw, hn, hc⟩ := HSD.out
        have d1 := rd_none ca.1 hw (i := j) (by omega)
        refine ⟨read_on ca.1 (by omega) (by omega), d1, ?_⟩
        rw [d1]
        exact (HP3.out.d.ok.k j).trans hn)
      go_loopw [16, 17] (fun wv i wr => ∃ j : Nat, j ≤ c ∧ i = .int .i64 (j : Int) ∧ ∃ A5 c5 Gs, wv = .slice A5 j c5 ∧ Hid (Solo w L3 D1 wr) ∧ Hid (WasAt w.heap.size n j D1.kept A5 c5 wr Gs) ∧ Hid (∀ p ∈ Gs, ¬ L3.has p.1)) (fun _ i _ => c - (intOf i).toNat)
      case atStart =>
        refine ⟨0, Nat.zero_le _, rfl, _, _, [], rfl, hide_ (HP3.out.below ((Below.refl _ _).alloc (Nat.le_refl _) _)), hide_ ⟨rfl, own_empty9 _ HP3.out.b.size, fun j p e => by simp at e⟩, hide_ (fun p hp => by simp at hp)⟩
      case round =>
        obtain ⟨j, hj, rfl, A5, c5, Gs, rfl, HP5, HW5, HN5⟩ := hrel
        clear HP3
        by_cases hjc : j < c
        · obtain ⟨r1, r3, r4⟩ := HRD.out j hjc
          have HR1 := hide_ (HP5.out.read EB3.out (j : Int))
          unfold ReadR at HR1
          rw [r1] at HR1
          obtain ⟨rb, hrb⟩ : ∃ rb, rdB D1 (j : Int) = rb := ⟨_, rfl⟩
          rw [hrb] at HR1 r3 r4
          rw [r4] at HR1
          have HR3 := hide_ r3
          have HR4 := hide_ r4
          clear r1 r3 r4 hrb
          go_wp2_with (first | (go_at_call 19; with_reducible refine HR1.out.mono ?_; rintro en w5 ⟨A6, c6, rfl, hown6, hb6⟩; (obtain ⟨g6, rfl, hg6, _, hr6⟩ := own_row hown6 HR4.out (by omega)); (have HP6 := hide_ (HP5.out.below hb6)); (have HW6 := hide_ (HW5.out.below hb6)); (have HR6 := hide_ hr6); (have HG6 := hide_ hg6); clear hown6 hb6 hr6 hg6) | (at_builtin; refine wpList_append_grown _ rfl _ _ 48 rfl w.heap.size 38 (.slice none 0 0) 1 24 sl8_info rfl (by omega) Try.underlying48 (.slice A5 j c5) j _ rfl (HW6.out.row.alloc _) (w5.heap.size + 1) (some ⟨w5.heap.size, 0, none⟩) 1 1 [.slice (some ⟨g6, 0, none⟩) n c6] rfl rfl (sees_box w5 _ _ _ rfl) (fun u hu => by simp at hu; subst hu; rfl) (by omega) (by omega) (by have := HP6.out.b.size; simp; omega) (j + 1) rfl _ rfl ?_; intro A7 c7 w7 hown7 hg7; (have HW7 := hide_ (HW6.out.push (by rw [← HR3.out]; exact HR6.out) (Nat.le_trans HP5.out.b.size HG6.out) hown7 hg7)); (have HP7 := hide_ ((HP6.out.below ((Below.refl _ _).alloc (Nat.le_refl _) _)).row (HW6.out.row.alloc _) (Nat.le_refl _) hg7)); clear hown7 hg7))
          go_roundw
          case rel =>
            refine ⟨j + 1, by omega, by go_num, A7, c7, _, by go_num, HP7, HW7, hide_ (fun p hp e => ?_)⟩
            rcases List.mem_append.1 hp with h | h
            · exact HN5.out p h e
            · simp at h
              subst h
              have := HP5.out.d.lt e
              have := HG6.out
              simp only at *
              omega
          case measure => simp [intOf]; omega
        · obtain rfl : j = c := by omega
          have HM0 := hide_ (show InvM w bc n j l2 D1.kept A5 c5 Gs 0 wr from ⟨L3, D1, EB3.out, HP5.out, HSD.out.1, HSD.out.2.2.1, HSD.out.2.2.2, by rw [HSD.out.2.1]; simp, rfl, fun q hq => by rw [HSD.out.2.1] at hq; simp at hq, HW5.out, HN5.out⟩)
          have HKN := hide_ (show ∀ i, (D1.kept i).length = n from fun i => (HP5.out.d.ok.k i).trans HSD.out.2.2.1)
          obtain ⟨kp, hkp⟩ : ∃ kp, D1.kept = kp := ⟨_, rfl⟩
          rw [hkp] at HM0 HKN
          clear hkp HP5 HW5 HN5 HRD HSD EB3
          go_wp2
          go_loopw [20] (fun i wr => ∃ k : Nat, k ≤ m2 ∧ i = .int .i64 (k : Int) ∧ Hid (InvM w bc n j l2 kp A5 c5 Gs k wr)) (fun i _ => m2 - (intOf i).toNat)
          case atStart => exact ⟨0, Nat.zero_le _, rfl, HM0⟩
          case round =>
            obtain ⟨k2, hk2, rfl, HI⟩ := hrel
            clear HM0
            obtain ⟨L1, D, e1, hp, hca, hdn, hdc, hdw, hdk, hdq, hwa, hna⟩ := HI.out
            have HCA := hide_ hca
            have HDN := hide_ hdn
            have HDC := hide_ hdc
            have HDW := hide_ hdw
            have HDK := hide_ hdk
            have HDQ := hide_ hdq
            have HWA := hide_ hwa
            have HNA := hide_ hna
            have HPP := hide_ hp
            have E1 := hide_ e1
            clear HI e1 hca hdn hdc hdw hdk hdq hwa hna hp
            by_cases hlt : k2 < m2
            · obtain ⟨b, off, x, rfl, hb, hx, q1, q3, hbk⟩ := step_cells HS2.out HOK2.out (by rw [HM2.out]; exact hlt)
              have h600 := H62.out x (List.mem_of_getElem? hx)
              have HX := hide_ hx
              clear hx
              obtain ⟨xi, hxi⟩ : ∃ xi, x.i = xi := ⟨_, rfl⟩
              obtain ⟨xb, hxb⟩ : ∃ xb, x.b = xb := ⟨_, rfl⟩
              rw [hxi] at q1
              rw [hxb] at q3 hbk h600
              have HXI := hide_ hxi
              clear hxi hxb
              obtain ⟨xa, xc, xl⟩ := xb
              simp only [Sl.v] at q3
              simp only at h600
              obtain ⟨z, hz⟩ : ∃ z, xl.length = z := ⟨_, rfl⟩
              rw [hz] at q3 h600
              have p1 := (HPP.out.b.cell (p := ⟨b, off + k2 * 6 + 1, none⟩) hb).trans q1
              have p3 := (HPP.out.b.cell (p := ⟨b, off + k2 * 6 + 3, none⟩) hb).trans q3
              have HW1 := hide_ (HPP.out.drew.write E1.out xi ⟨xa, xc, xl⟩ hbk (by have := HDW.out; omega) (by rw [hz]; omega) hz)
              clear hbk hz
              go_wp2
              go_region_held (fun u => u.cell? ⟨b, off + k2 * 6 + 1, none⟩ = some (.int .i64 xi) ∧ u.cell? ⟨b, off + k2 * 6 + 3, none⟩ = some (.slice xa z xc))
                (first | exact ⟨p1, p3⟩ | exact ⟨s1, s3⟩)
                (first | (go_simp; go_at_call 20; with_reducible refine HW1.out.mono ?_; rintro en w3 ⟨rfl, L4, eb4, hp4, hc4, hs4⟩; (have s1 := (hp4.b.cell (p := ⟨b, off + k2 * 6 + 1, none⟩) hb).trans q1); (have s3 := (hp4.b.cell (p := ⟨b, off + k2 * 6 + 3, none⟩) hb).trans q3); (have EB4 := hide_ eb4); (have HP4 := hide_ hp4); (have HW4 := hide_ ((HWA.out.below ((Below.refl _ _).drew)).chg HPP.out.drew.d hc4 HNA.out)); (have HN4 := hide_ ((HWA.out.below ((Below.refl _ _).drew)).apart HNA.out hs4)); clear eb4 hp4 hc4 hs4))
              go_wp2
              go_roundw
              case rel =>
                obtain ⟨v1, v2, v3, v4, v5⟩ := write_calm HCA.out xi xl
                refine ⟨k2 + 1, by omega, by go_num, hide_ ⟨_, _, EB4.out, HP4.out, v1, v2.trans HDN.out, v3.trans HDC.out, by have := HDW.out; omega, v5.trans HDK.out, fun q hq => ?_, HW4.out, HN4.out⟩⟩
                rcases write_waits xi xl hq with e | e
                · obtain ⟨j', y, h1, h2, h3⟩ := HDQ.out q e
                  exact ⟨j', y, by omega, h2, h3⟩
                · exact ⟨k2, x, by omega, HX.out, by rw [HXI.out, e]⟩
              case measure => simp [intOf]; omega
            · obtain rfl : k2 = m2 := by omega
              have HBA := hide_ (HPP.out.back E1.out ke t)
              go_wp2_with (go_at_call 17; refine HBA.out.mono ?_; rintro en w4 ⟨rfl, L4, eb4, hp4, hc4, hs4⟩; (have EB4 := hide_ eb4); (have HP4 := hide_ hp4); (have HW4 := hide_ (HWA.out.chg HPP.out.d hc4 HNA.out)); clear eb4 hp4 hc4 hs4)
              obtain ⟨a1, a2, a3, a4⟩ := back_on D ke t
              have hki : ∀ i : Nat, (∀ (y : Nat) (x : StM), l2[y]? = some x → x.i ≠ (i : Int)) → (backD D ke t).kept i = kp i := fun i hno => by
                rw [back_kept, HDK.out]
                intro q hq e
                obtain ⟨y, x, _, h2, h3⟩ := HDQ.out q hq
                exact hno y x h2 (by rw [h3, e])
              obtain ⟨D4, hD4⟩ : ∃ D4, backD D ke t = D4 := ⟨_, rfl⟩
              rw [hD4] at HP4 a1 a2 a3 a4 hki
              rw [HDC.out] at a3
              rw [HDN.out] at a4
              have HKI := hide_ hki
              have HRD := hide_ (show ∀ i : Nat, i < j → reachD D4 i = 0 ∧ rdB D4 i = D4.kept i ∧ (rdB D4 i).length = n from fun i hi => by
                have d1 := rd_none a1 a2 (i := i) (by omega)
                refine ⟨read_on a1 (by omega) (by omega), d1, ?_⟩
                rw [d1]
                exact (HP4.out.d.ok.k i).trans a4)
              obtain ⟨ob, oo, op, rfl, _, _⟩ := HW4.out.cell (j := 0) (by omega)
              clear hD4 hki a1 a2 a3 a4 HBA HCA HDN HDC HDW HDK HDQ HWA HNA HPP E1
              go_wp2
              go_loopw [21] (fun i wr => ∃ i4 : Nat, i4 ≤ j ∧ i = .int .i64 (i4 : Int) ∧ Hid (Solo w L4 D4 wr) ∧ Hid (WasAt w.heap.size n j kp (some ⟨ob, oo, none⟩) c5 wr Gs)) (fun i _ => j - (intOf i).toNat)
              case atStart => exact ⟨0, Nat.zero_le _, rfl, HP4, HW4⟩
              case round =>
                obtain ⟨i4, hi4, rfl, HP5, HW5⟩ := hrel
                clear HP4 HW4
                by_cases hij : i4 < j
                · obtain ⟨r1, r3, r4⟩ := HRD.out i4 hij
                  have HR1 := hide_ (HP5.out.read EB4.out (i4 : Int))
                  unfold ReadR at HR1
                  rw [r1] at HR1
                  obtain ⟨rb, hrb⟩ : ∃ rb, rdB D4 (i4 : Int) = rb := ⟨_, rfl⟩
                  rw [hrb] at HR1 r3 r4
                  rw [r4] at HR1
                  have HR3 := hide_ r3
                  have HR4 := hide_ r4
                  clear r1 r3 r4 hrb
                  obtain ⟨kb, hkb⟩ : ∃ kb, kp i4 = kb := ⟨_, rfl⟩
                  have HKB := hide_ hkb
                  clear hkb
                  go_wp2_with (go_at_call 19; with_reducible refine HR1.out.mono ?_; rintro en w5 ⟨A6, c6, rfl, hown6, hb6⟩; (have HP6 := hide_ (HP5.out.below hb6)); (have HW6 := hide_ (HW5.out.below hb6)); (obtain ⟨ob', oo', p, e, qc, hrp⟩ := HW6.out.cell hij); (simp only [Option.some.injEq, Addr.mk.injEq, and_true] at e); (obtain ⟨rfl, rfl⟩ := e); (rw [HKB.out] at hrp); (obtain ⟨qn, hqn⟩ : ∃ qn, (Gs[i4]?.getD (0, 0)).2 = qn := ⟨_, rfl⟩); (rw [hqn] at qc); (have cv5 := fun q : Nat => run_str (P := Try.prog) (w5.drewN q) 38 9 5 Try.underlying38 Try.underlying5 Try.underlying9 rb w5.heap.size A6 n c6 HR4.out ((Sees.own hown6).below (below_dN (Below.refl _ _) q))); (have cv6 := fun q : Nat => run_str (P := Try.prog) (w5.drewN q) 38 9 5 Try.underlying38 Try.underlying5 Try.underlying9 kb w5.heap.size (some ⟨p, 0, none⟩) n qn (by rw [← HKB.out]; exact HKN.out i4) (hrp.sees.below (below_dN (Below.refl _ _) q))); clear hown6 hb6 hrp hqn)
                  go_quiet (fail)
                  obtain ⟨w6, hw6⟩ : ∃ u, w5.drewN nq = u := ⟨_, rfl⟩
                  have hb6 : Below w5.heap.size w5 w6 := hw6 ▸ below_dN (Below.refl _ _) nq
                  rw [hw6]
                  have HP7 := hide_ (HP6.out.below hb6)
                  have HW7 := hide_ (HW6.out.below hb6)
                  clear hw6 hb6 cv5 cv6
                  obtain ⟨b0, hb0⟩ : ∃ b0, (rb == kb) = b0 := ⟨_, rfl⟩
                  rw [hb0]
                  have HTR := hide_ (show (b0 || hit12 l2 i4 k2) = true from by
                    by_cases hh : hit12 l2 i4 k2 = true
                    · rw [hh]
                      simp
                    · have hno : ∀ (y : Nat) (x : StM), l2[y]? = some x → x.i ≠ (i4 : Int) := fun y x hy e => by
                        apply hh
                        unfold hit12
                        rw [List.any_eq_true]
                        refine ⟨x, ?_, by simpa using e⟩
                        rw [List.take_of_length_le (by rw [HM2.out]; exact Nat.le_refl _)]
                        exact List.mem_of_getElem? hy
                      have hr := HKI.out i4 hno
                      rw [HKB.out] at hr
                      have e : rb = kb := HR3.out.trans hr
                      rw [← hb0, e]
                      simp)
                  clear hb0 HR3
                  go_wp2
                  go_loopw [24, 25] (fun sv kv wr => ∃ k4 : Nat, k4 ≤ k2 ∧ sv = .bool (b0 || hit12 l2 i4 k4) ∧ kv = .int .i64 (k4 : Int) ∧ wr = w6) (fun _ kv _ => k2 - (intOf kv).toNat)
                  case atStart => exact ⟨0, Nat.zero_le _, by simp [hit12], rfl, rfl⟩
                  case round =>
                    obtain ⟨k4, hk4, rfl, rfl, rfl⟩ := hrel
                    by_cases hk42 : k4 < k2
                    · obtain ⟨b, off, x, rfl, hb, hx, q1, _, _⟩ := step_cells HS2.out HOK2.out (by rw [HM2.out]; exact hk42)
                      have p1 := (HP7.out.b.cell (p := ⟨b, off + k4 * 6 + 1, none⟩) hb).trans q1
                      have HH := hide_ (hit_succ (i := i4) hx)
                      obtain ⟨xi, hxi⟩ : ∃ xi, x.i = xi := ⟨_, rfl⟩
                      rw [hxi] at p1 HH
                      obtain ⟨Bq, hBq⟩ : ∃ Bq, (b0 || hit12 l2 i4 k4) = Bq := ⟨_, rfl⟩
                      have HBQ := hide_ hBq
                      rw [hBq]
                      clear hBq hxi hx q1
                      cases Bq with
                      | true =>
                        go_wp2
                        go_roundw
                        case rel => exact ⟨k4 + 1, by omega, by rw [HH.out, ← Bool.or_assoc, HBQ.out]; rfl, by go_num, by first | trivial | rfl⟩
                        case measure => simp [intOf]; omega
                      | false =>
                        go_wp2
                        go_roundw
                        case rel => exact ⟨k4 + 1, by omega, by rw [HH.out, ← Bool.or_assoc, HBQ.out]; rfl, by go_num, by first | trivial | rfl⟩
                        case measure => simp [intOf]; omega
                    · obtain rfl : k4 = k2 := by omega
                      rw [HTR.out]
                      go_wp2
                      go_roundw
                      case rel => exact ⟨i4 + 1, by omega, by go_num, HP7, HW7⟩
                      case measure => simp [intOf]; omega
                · obtain rfl : i4 = j := by omega
                  go_wp2_with (go_at_call 8; refine (awake12_any _).mono ?_; rintro e wz ⟨rfl, hbz⟩)
                  go_ret
                  exact ⟨rfl, HP5.out.b.trans (hbz.mono HP5.out.b.size)⟩



theorem own : ownKnob Try.prog.godebug = none := by kernel_rfl
theorem laid : laidOutB Try.prog = true := by kernel_rfl

set_option maxRecDepth 100000 in
theorem contract (H : Type) (enc : TypeId × Value → H) (W : World) (base : Nat) (args : Array Value) (ds gs : List (DataW H)) (before : List MemPlace)
    (hval : ∀ (j : Nat) t v, Try.f4.params[j]? = some t → args[j]? = some v → Value.okWide Try.prog W .any base t v)
    (hW : DataW.Whole enc Try.prog Try.f4.params.toList Rows.sectorSyncedSpec.vars false W args.toList ds gs before) :
    Calls Try.prog 4 args W fun e W' => ∃ v, e = .returned v ∧ Rows.sectorSyncedSpec.post enc Try.prog Try.f4 false true false false W args v W' := by
  have hW' := hW
  obtain ⟨p, q, hA0, hV, rfl, hfz, hnd⟩ := hW
  have hA : DataW.TrodAll enc Try.prog W 0 (fun _ => true) true Try.f4.params.toList args.toList ds p := hA0
  rw [Try.params4] at hA hval
  obtain ⟨v0, vs0, d0, ds0, p0, q0, hargs, rfl, rfl, h0, r0⟩ := trodAll_cons hA
  obtain ⟨v1, vs1, d1, ds1, p1, q1, rfl, rfl, rfl, h1, r1⟩ := trodAll_cons r0
  obtain ⟨v2, vs2, d2, ds2, p2, q2, rfl, rfl, rfl, h2, r2⟩ := trodAll_cons r1
  obtain ⟨v3, vs3, d3, ds3, p3, q3, rfl, rfl, rfl, h3, r3⟩ := trodAll_cons r2
  obtain ⟨v4, vs4, d4, ds4, p4, q4, rfl, rfl, rfl, h4, r4⟩ := trodAll_cons r3
  obtain ⟨v5, vs5, d5, ds5, p5, q5, rfl, rfl, rfl, h5, r5⟩ := trodAll_cons r4
  obtain ⟨rfl, rfl, rfl⟩ := trodAll_nil r5
  obtain rfl : args = #[v0, v1, v2, v3, v4, v5] := by cases args; simp_all
  obtain ⟨rfl, rfl⟩ := trodVars_none hV
  obtain ⟨a0, rfl, rfl, rfl, w0⟩ := open_int Try.underlying3 (hval 0 3 v0 rfl rfl) h0
  have b0 : -9223372036854775808 ≤ a0 ∧ a0 ≤ 9223372036854775807 := by simpa [Lit.wf, IntKind.min, IntKind.max, IntKind.signed, IntKind.bits] using w0
  obtain ⟨a1, rfl, rfl, rfl, w1⟩ := open_int Try.underlying3 (hval 1 3 v1 rfl rfl) h1
  have b1 : -9223372036854775808 ≤ a1 ∧ a1 ≤ 9223372036854775807 := by simpa [Lit.wf, IntKind.min, IntKind.max, IntKind.signed, IntKind.bits] using w1
  obtain ⟨u2, rfl, bu2⟩ := open_steps (hval 2 22 v2 rfl rfl) h2
  obtain ⟨u3, rfl, bu3⟩ := open_steps (hval 3 22 v3 rfl rfl) h3
  obtain ⟨a4, rfl, rfl, rfl, w4⟩ := open_int Try.underlying3 (hval 4 3 v4 rfl rfl) h4
  have b4 : -9223372036854775808 ≤ a4 ∧ a4 ≤ 9223372036854775807 := by simpa [Lit.wf, IntKind.min, IntKind.max, IntKind.signed, IntKind.bits] using w4
  obtain ⟨t5, rfl, rfl, rfl⟩ := open_bool Try.underlying4 (hval 5 4 v5 rfl rfl) h5
  have fin : ∀ (e : Ending) (W' : World), e = .returned (.bool true) ∧ Below W.heap.size W W' → ∃ v, e = .returned v ∧ Rows.sectorSyncedSpec.post enc Try.prog Try.f4 false true false false W #[.int .i64 a0, .int .i64 a1, Sl.v u2, Sl.v u3, .int .i64 a4, .bool t5] v W' :=
    fun e W' ⟨he, hb⟩ => ⟨_, he, law_post laid (by kernel_rfl) rfl rfl rfl Try.underlying4 hW' hb⟩
  by_cases hg : greatD a0 a1 u2.l = true
  · exact (walk_long a0 a1 u2 u3 a4 t5 W bu2 bu3 hg).mono fin
  · have hg' : greatD a0 a1 u2.l = false := by simpa using hg
    by_cases hg2 : greatD a0 a1 u3.l = true
    · exact (walk_long2 a0 a1 u2 u3 a4 t5 W bu2 bu3 hg' hg2).mono fin
    · have hg2' : greatD a0 a1 u3.l = false := by simpa using hg2
      have hgr := of_decide_eq_false hg'
      obtain ⟨p, rfl⟩ : ∃ p : Nat, a0 = (p : Int) := ⟨a0.toNat, by have := mt Or.inl hgr; omega⟩
      obtain ⟨q, rfl⟩ : ∃ q : Nat, a1 = (q : Int) := ⟨a1.toNat, by have := mt (fun h => Or.inr (Or.inr (Or.inl h))) hgr; omega⟩
      obtain ⟨A, cp, l⟩ := u2
      obtain ⟨A2, cp2, l2⟩ := u3
      exact (walk p q A cp l l.length A2 cp2 l2 l2.length a4 t5 W bu2 bu3 rfl rfl hg' hg2').mono fin

set_option maxRecDepth 100000 in
theorem lifted (os : Os) (started : os.Started) (H : Type) (enc : TypeId × Value → H) :
    ReturnsInHanded {} Try.checked os 4 .any (Rows.sectorSyncedSpec.pre6 enc Try.prog Try.f4 Rows.sectorSyncedRow.domain false) (Rows.sectorSyncedSpec.post enc Try.prog Try.f4 false true false false) := by
  refine returnsInHanded_of_change (C := Try.checked) (s := Rows.sectorSyncedSpec) own started (by kernel_rfl) Try.func4
    (ChangeSpec.witness6 (enc := enc) (C := Try.checked) false ⟨#[], #[.int .i64 0, .int .i64 0, .slice none 0 0, .slice none 0 0, .int .i64 0, .bool false], []⟩ 8 (by kernel_rfl) (by kernel_rfl) (by kernel_rfl) (by kernel_rfl)) ?_
  intro W base args ds gs before hval hW _ _
  exact contract H enc W base args ds gs before hval hW

theorem proved : Rows.SectorSyncedSaid :=
  OpenClaim.holds_of_wide 4 Try.f4 rfl rfl rfl rfl rfl rfl rfl ⟨rfl, rfl, rfl, rfl, rfl⟩ rfl rfl rfl rfl rfl (by kernel_rfl) Try.func4 (by kernel_rfl)
    (of_decide_eq_true (by kernel_rfl)) (by unfold Func.isWrapper; first | (rw [if_pos (by decide +kernel)]; kernel_rfl) | (rw [if_neg (by decide +kernel)]; exact ⟨rfl, rfl⟩))
    (fun os started H enc _ => lifted os started H enc)
end Go.Proofs.Ytimgmpmibempaaa.sectorSynced
