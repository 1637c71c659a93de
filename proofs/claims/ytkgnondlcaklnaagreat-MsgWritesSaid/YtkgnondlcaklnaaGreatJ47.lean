/-
  Texts of this claim put together: Msg4.
-/
import Derived.Test.YtkgnondlcaklnaaGreatJ46
import Derived.Test.YtkgnondlcaklnaaGreatJ44
/-
  What was put is taken: contract of msg's take.
-/
namespace Go.Proofs.YtkgnondlcaklnaaGreat
open Go.RowKit

theorem Num_put {g n : Nat} (most : Nat) {t : List UInt8} {w : World} (h : Rdr w g (numB n ++ t) 0) (hn : n ≤ most) (hm : n < 18446744073709551616) (hl : (numB n ++ t).length ≤ 1000000) :
    Calls Tryz.prog 90 #[.pointer (some ⟨g, 0, none⟩), .int .u64 most] w (Leaves w g (.int .u64 n) t 0) := by
  have h1 := Num_live most h (by omega)
  rw [takeUp_put n most t hm hn] at h1
  exact h1

theorem BalGet_put {g c n l : Nat} {t : List UInt8} {w : World} (h : Rdr w g (balB c n l ++ t) 0) (hi : BalIn c n l) (hl : (balB c n l ++ t).length ≤ 1000000) :
    Calls Tryz.prog 91 #[.pointer (some ⟨g, 0, none⟩)] w (Leaves w g (.agg #[.int .u64 c, .int .u8 n, .int .u32 l]) t 0) := by
  have h1 := Get_live h (by omega)
  rw [takeB_put t hi.1 hi.2.1 hi.2.2] at h1
  exact h1

theorem getS_puts {w : World} {B : Nat} {r : RegM} (hr : RegM.ok w B r) (hm : mayG r.p = true) (t : List UInt8) : getS (regB r.p ++ t, 0) = (r.p, (t, 0)) := by
  have hk := hr.1.1
  unfold U8 at hk
  by_cases h0 : r.p.ki = 0
  · have hz : r.p = zeroP := by
      unfold mayG at hm
      rw [if_pos h0] at hm
      exact of_decide_eq_true hm
    rw [hz]
    unfold getS
    rw [regS_zero t]
    rfl
  · unfold getS
    rw [regS_put (regOk_of hr hm) h0 t]
    simp only [if_true, hm]

theorem RegGet_put {g : Nat} {rp : RegP} {rb t : List UInt8} {w : World} (hget : ∀ t, getS (rb ++ t, 0) = (rp, (t, 0))) (h : Rdr w g (rb ++ t) 0) (hl : (rb ++ t).length ≤ 1000000) :
    Calls Tryz.prog 92 #[.pointer (some ⟨g, 0, none⟩)] w fun e w' => ∃ y : RegM, e = .returned y.v ∧ y.p = rp ∧ RegM.ok w' w'.heap.size y ∧ Lies RegM.ft y w.heap.size w'.heap.size ∧ Rdr w' g t 0 ∧ w.grownBy w' (some g) := by
  have h1 := GetReg_any (s := (rb ++ t, 0)) h ⟨.inl rfl, hl⟩
  rw [hget t] at h1
  exact h1

theorem box_apart {w : World} {g b i : Nat} {v : Value} {cs : Array Value} {t : TypeId} (h : BoxAt w g cs t) (hne : g ≠ b) : BoxAt (w.setCell ⟨b, i, none⟩ v) g cs t := (Below.heap_setCell w ⟨b, i, none⟩ v g hne).trans h

def headC (ki fr tt ke k : Nat) : Array Value := #[.int .u8 ((if 0 < k then ki else 0 : Nat) : Int), .int .u8 ((if 1 < k then fr else 0 : Nat) : Int), .int .u8 ((if 2 < k then tt else 0 : Nat) : Int), .int .u8 ((if 3 < k then ke else 0 : Nat) : Int),
  .int .u64 0, .int .u64 0, .int .u8 0, .int .u32 0, .bool false, .int .u64 0, .int .u8 0, .int .u32 0, .int .u8 0, .int .u64 0, .int .i64 0, .slice none 0 0, .slice none 0 0, .slice none 0 0, .int .u64 0, .slice none 0 0, .int .u64 0, .int .u8 0, .int .u32 0, .int .u64 0]

/-- what a call leaves that takes a message: a message in memory, what is left -/
def TookM (p : MsgP) (t : List UInt8) (g : Nat) (w : World) (e : Ending) (w' : World) : Prop :=
  ∃ x : MsgM, e = .returned x.v ∧ x.p = p ∧ MsgM.good w' w'.heap.size x ∧ Lies (fun m => RegM.ft m.r) x w.heap.size w'.heap.size ∧ Rdr w' g t 0 ∧ w.grownBy w' (some g)


set_option maxRecDepth 100000 in
set_option maxHeartbeats 12800000 in
set_option linter.unnecessarySimpa false in
theorem take_put (m : MsgM) (rp : RegP) (t : List UInt8) (g : Nat) (w : World) (hok : m.ok') (hget : ∀ t, getS (regB m.r.p ++ t, 0) = (m.r.p, (t, 0))) (hrp : m.r.p = rp) (h : Rdr w g (msgB m.p ++ t) 0) (hl : (msgB m.p ++ t).length ≤ 1000000) :
    Calls Tryz.prog 50 #[.pointer (some ⟨g, 0, none⟩)] w (TookM m.p t g w) := by
  obtain ⟨hin1, ⟨hco, hmx⟩, hbb, hab, hnb⟩ := hok
  have HIN := hide_ hin1
  have HCO := hide_ hco
  have HMX := hide_ hmx
  have HBB := hide_ hbb
  have HAB := hide_ hab
  have HNB := hide_ hnb
  have HGET := hide_ hget
  rw [hrp] at HGET
  have HMP := hide_ (show m.p = ⟨m.ki, m.fr, m.tt, m.ke, m.co, m.bc, m.bn, m.bl, m.ok, m.ac, m.an, m.al, m.r.p, m.nc, m.nn, m.nl, m.mx⟩ from rfl)
  rw [hrp] at HMP
  have hmb : msgB m.p ++ t = numB m.ki ++ (numB m.fr ++ (numB m.tt ++ (numB m.ke ++ (numB m.co ++ (balB m.bc m.bn m.bl ++ (numB (okN m.ok) ++ (balB m.ac m.an m.al ++ (regB rp ++ (balB m.nc m.nn m.nl ++ (numB m.mx ++ t)))))))))) := by rw [← hrp]; simp only [msgB, MsgM.p, List.append_assoc]
  obtain ⟨mp, hmp⟩ : ∃ p, m.p = p := ⟨_, rfl⟩
  rw [hmp] at HMP ⊢
  rw [hmb] at h hl
  clear hin1 hco hmx hbb hab hnb hmb hget hrp hmp
  obtain ⟨ki, fr, tt, ke, co, bc, bn, bl, ok, ac, an, al, mr, nc, nn, nl, mx⟩ := m
  simp only at HIN HCO HMX HBB HAB HNB HMP h hl
  obtain ⟨rb, hrb⟩ : ∃ b, regB rp = b := ⟨_, rfl⟩
  rw [hrb] at HGET h hl
  clear hrb
  obtain ⟨s10, h10⟩ : ∃ x, numB mx ++ t = x := ⟨_, rfl⟩
  obtain ⟨s9, h9⟩ : ∃ x, balB nc nn nl ++ s10 = x := ⟨_, rfl⟩
  obtain ⟨s8, h8⟩ : ∃ x, rb ++ s9 = x := ⟨_, rfl⟩
  obtain ⟨s7, h7⟩ : ∃ x, balB ac an al ++ s8 = x := ⟨_, rfl⟩
  obtain ⟨s6, h6⟩ : ∃ x, numB (okN ok) ++ s7 = x := ⟨_, rfl⟩
  obtain ⟨s5, h5⟩ : ∃ x, balB bc bn bl ++ s6 = x := ⟨_, rfl⟩
  obtain ⟨s4, h4⟩ : ∃ x, numB co ++ s5 = x := ⟨_, rfl⟩
  obtain ⟨s3, h3⟩ : ∃ x, numB ke ++ s4 = x := ⟨_, rfl⟩
  obtain ⟨s2, h2⟩ : ∃ x, numB tt ++ s3 = x := ⟨_, rfl⟩
  obtain ⟨s1, h1⟩ : ∃ x, numB fr ++ s2 = x := ⟨_, rfl⟩
  obtain ⟨s0, h0⟩ : ∃ x, numB ki ++ s1 = x := ⟨_, rfl⟩
  rw [h10, h9, h8, h7, h6, h5, h4, h3, h2, h1, h0] at h hl
  have HT := hide_ (show numB ki ++ s1 = s0 ∧ numB fr ++ s2 = s1 ∧ numB tt ++ s3 = s2 ∧ numB ke ++ s4 = s3 ∧ numB co ++ s5 = s4 ∧ balB bc bn bl ++ s6 = s5 ∧ numB (okN ok) ++ s7 = s6 ∧ balB ac an al ++ s8 = s7 ∧ rb ++ s9 = s8 ∧ balB nc nn nl ++ s10 = s9 ∧ numB mx ++ t = s10 from ⟨h0, h1, h2, h3, h4, h5, h6, h7, h8, h9, h10⟩)
  have HL := hide_ (show s0.length ≤ 1000000 ∧ s1.length ≤ 1000000 ∧ s2.length ≤ 1000000 ∧ s3.length ≤ 1000000 ∧ s4.length ≤ 1000000 ∧ s5.length ≤ 1000000 ∧ s6.length ≤ 1000000 ∧ s7.length ≤ 1000000 ∧ s8.length ≤ 1000000 ∧ s9.length ≤ 1000000 ∧ s10.length ≤ 1000000 from by
    have e0 := congrArg List.length h0
    have e1 := congrArg List.length h1
    have e2 := congrArg List.length h2
    have e3 := congrArg List.length h3
    have e4 := congrArg List.length h4
    have e5 := congrArg List.length h5
    have e6 := congrArg List.length h6
    have e7 := congrArg List.length h7
    have e8 := congrArg List.length h8
    have e9 := congrArg List.length h9
    have e10 := congrArg List.length h10
    simp only [List.length_append] at e0 e1 e2 e3 e4 e5 e6 e7 e8 e9 e10
    refine ⟨?_, ?_, ?_, ?_, ?_, ?_, ?_, ?_, ?_, ?_, ?_⟩ <;> omega)
  clear h0 h1 h2 h3 h4 h5 h6 h7 h8 h9 h10 hl
  have LT := hide_ h.glt
  have h2 := (h.made (.cells #[.int .u8 0, .int .u8 0, .int .u8 0, .int .u8 0, .int .u64 0, .int .u64 0, .int .u8 0, .int .u32 0, .bool false, .int .u64 0, .int .u8 0, .int .u32 0, .int .u8 0, .int .u64 0, .int .i64 0, .slice none 0 0, .slice none 0 0, .slice none 0 0, .int .u64 0, .slice none 0 0, .int .u64 0, .int .u8 0, .int .u32 0, .int .u64 0] 51)).made (.cells #[.int .u8 0, .int .u8 0, .int .u8 0, .int .u8 0, .int .u64 0, .int .u64 0, .int .u8 0, .int .u32 0, .bool false, .int .u64 0, .int .u8 0, .int .u32 0, .int .u8 0, .int .u64 0, .int .i64 0, .slice none 0 0, .slice none 0 0, .slice none 0 0, .int .u64 0, .slice none 0 0, .int .u64 0, .int .u8 0, .int .u32 0, .int .u64 0] 51)
  go_enter Tryz.func50, Tryz.ntmps50
  go_wp2_with fail
  generalize hW : (w.alloc (.cells #[.int .u8 0, .int .u8 0, .int .u8 0, .int .u8 0, .int .u64 0, .int .u64 0, .int .u8 0, .int .u32 0, .bool false, .int .u64 0, .int .u8 0, .int .u32 0, .int .u8 0, .int .u64 0, .int .i64 0, .slice none 0 0, .slice none 0 0, .slice none 0 0, .int .u64 0, .slice none 0 0, .int .u64 0, .int .u8 0, .int .u32 0, .int .u64 0] 51)).alloc (.cells #[.int .u8 0, .int .u8 0, .int .u8 0, .int .u8 0, .int .u64 0, .int .u64 0, .int .u8 0, .int .u32 0, .bool false, .int .u64 0, .int .u8 0, .int .u32 0, .int .u8 0, .int .u64 0, .int .i64 0, .slice none 0 0, .slice none 0 0, .slice none 0 0, .int .u64 0, .slice none 0 0, .int .u64 0, .int .u8 0, .int .u32 0, .int .u64 0] 51) = W0 at h2 ⊢
  have HR0 := hide_ h2
  have HG0 := hide_ (show w.grownBy W0 (some g) from hW ▸ grown_made (grown_made (World.grownBy.refl _ _)))
  have HZ0 := hide_ (show BoxAt W0 w.heap.size #[.int .u8 0, .int .u8 0, .int .u8 0, .int .u8 0, .int .u64 0, .int .u64 0, .int .u8 0, .int .u32 0, .bool false, .int .u64 0, .int .u8 0, .int .u32 0, .int .u8 0, .int .u64 0, .int .i64 0, .slice none 0 0, .slice none 0 0, .slice none 0 0, .int .u64 0, .slice none 0 0, .int .u64 0, .int .u8 0, .int .u32 0, .int .u64 0] 51 from hW ▸ (BoxAt.new w _ _).alloc _)
  have HX0 := hide_ (show BoxAt W0 (w.heap.size + 1) (headC ki fr tt ke 0) 51 from by rw [← hW]; have h := BoxAt.new (w.alloc (.cells #[.int .u8 0, .int .u8 0, .int .u8 0, .int .u8 0, .int .u64 0, .int .u64 0, .int .u8 0, .int .u32 0, .bool false, .int .u64 0, .int .u8 0, .int .u32 0, .int .u8 0, .int .u64 0, .int .i64 0, .slice none 0 0, .slice none 0 0, .slice none 0 0, .int .u64 0, .slice none 0 0, .int .u64 0, .int .u8 0, .int .u32 0, .int .u64 0] 51)) #[.int .u8 0, .int .u8 0, .int .u8 0, .int .u8 0, .int .u64 0, .int .u64 0, .int .u8 0, .int .u32 0, .bool false, .int .u64 0, .int .u8 0, .int .u32 0, .int .u8 0, .int .u64 0, .int .i64 0, .slice none 0 0, .slice none 0 0, .slice none 0 0, .int .u64 0, .slice none 0 0, .int .u64 0, .int .u8 0, .int .u32 0, .int .u64 0] 51; simpa [headC] using h)
  have HS0 := hide_ (show W0.heap.size = w.heap.size + 2 from by rw [← hW]; simp)
  clear hW h h2
  refine (heads_any (w.heap.size + 1) W0).mono ?_
  rintro en w1 ⟨rfl, hb1⟩
  simp only [headV]
  have HR1 := hide_ (HR0.out.below hb1)
  have HG1 := hide_ (show w.grownBy w1 (some g) from ⟨hb1.os.trans HG0.out.os, hb1.tape.trans HG0.out.tape, hb1.output.trans HG0.out.output, Nat.le_trans HG0.out.size hb1.size, fun k hk hne => (hb1.block k (by have := HS0.out; omega)).trans (HG0.out.block k hk hne)⟩)
  have HZ1 := hide_ (HZ0.out.below hb1)
  have HX1 := hide_ (HX0.out.below hb1)
  have HC := hide_ (show ∀ k : Nat, headC ki fr tt ke k = #[.int .u8 ((if 0 < k then ki else 0 : Nat) : Int), .int .u8 ((if 1 < k then fr else 0 : Nat) : Int), .int .u8 ((if 2 < k then tt else 0 : Nat) : Int), .int .u8 ((if 3 < k then ke else 0 : Nat) : Int), .int .u64 0, .int .u64 0, .int .u8 0, .int .u32 0, .bool false, .int .u64 0, .int .u8 0, .int .u32 0, .int .u8 0, .int .u64 0, .int .i64 0, .slice none 0 0, .slice none 0 0, .slice none 0 0, .int .u64 0, .slice none 0 0, .int .u64 0, .int .u8 0, .int .u32 0, .int .u64 0] from fun _ => rfl)
  clear hb1
  go_wp2
  go_loopw [7] (fun i wr => ∃ k : Nat, k ≤ 4 ∧ i = .int .i64 k ∧ Rdr wr g (if k = 0 then s0 else if k = 1 then s1 else if k = 2 then s2 else if k = 3 then s3 else s4) 0 ∧ w.grownBy wr (some g) ∧ BoxAt wr w.heap.size #[.int .u8 0, .int .u8 0, .int .u8 0, .int .u8 0, .int .u64 0, .int .u64 0, .int .u8 0, .int .u32 0, .bool false, .int .u64 0, .int .u8 0, .int .u32 0, .int .u8 0, .int .u64 0, .int .i64 0, .slice none 0 0, .slice none 0 0, .slice none 0 0, .int .u64 0, .slice none 0 0, .int .u64 0, .int .u8 0, .int .u32 0, .int .u64 0] 51 ∧ BoxAt wr (w.heap.size + 1) (headC ki fr tt ke k) 51) (fun i _ => 4 - (intOf i).toNat)
  case atStart => exact ⟨0, by omega, rfl, HR1.out, HG1.out, HZ1.out, HX1.out⟩
  case round =>
    obtain ⟨k, hk, rfl, hr, hg, hz, hx⟩ := hrel
    have HR := hide_ hr
    have HG := hide_ hg
    have HZ := hide_ hz
    have HX := hide_ hx
    clear hr hg hz hx
    by_cases hlt : k < 4
    · have hk4 : k = 0 ∨ k = 1 ∨ k = 2 ∨ k = 3 := by omega
      clear hk
      rcases hk4 with rfl | rfl | rfl | rfl
      · have hix := (head_ix (.pointer (some ⟨w.heap.size + 1, 0, none⟩)) (.pointer (some ⟨w.heap.size + 1, 1, none⟩)) (.pointer (some ⟨w.heap.size + 1, 2, none⟩)) (.pointer (some ⟨w.heap.size + 1, 3, none⟩)) wr).1
        go_wp2_with fail
        refine (Num_put 255 (n := ki) (t := s1) (HT.out.1 ▸ HR.out) (HIN.out.1) (by have := HIN.out.1; omega) (by rw [HT.out.1]; exact HL.out.1)).mono ?_
        rintro en w4 ⟨rfl, hr4, hg4⟩
        have HX4 := hide_ (show BoxAt w4 _ _ _ from box_far hg4 HX.out (by have := LT.out; omega))
        have HZ4 := hide_ (show BoxAt w4 _ _ _ from box_far hg4 HZ.out (by have := LT.out; omega))
        have HR4 := hide_ hr4
        have HG4 := hide_ (grown_join HG.out hg4)
        clear hr4 hg4 hix
        have hcx := HX4.out.cell
        have hfx := HX4.out.free9
        simp only [HC.out] at hcx
        have h8 : ki ≤ 255 := HIN.out.1
        go_wp2
        clear hcx hfx
        go_roundw
        case rel => exact ⟨1, by omega, rfl, HR4.out.stored (by have := LT.out; omega), grown_stored HG4.out (by omega), box_apart HZ4.out (by omega), HX4.out.set9 0 _⟩
        case measure => simp [intOf]
      · have hix := (head_ix (.pointer (some ⟨w.heap.size + 1, 0, none⟩)) (.pointer (some ⟨w.heap.size + 1, 1, none⟩)) (.pointer (some ⟨w.heap.size + 1, 2, none⟩)) (.pointer (some ⟨w.heap.size + 1, 3, none⟩)) wr).2.1
        go_wp2_with fail
        refine (Num_put 255 (n := fr) (t := s2) (HT.out.2.1 ▸ HR.out) (HIN.out.2.1) (by have := HIN.out.2.1; omega) (by rw [HT.out.2.1]; exact HL.out.2.1)).mono ?_
        rintro en w4 ⟨rfl, hr4, hg4⟩
        have HX4 := hide_ (show BoxAt w4 _ _ _ from box_far hg4 HX.out (by have := LT.out; omega))
        have HZ4 := hide_ (show BoxAt w4 _ _ _ from box_far hg4 HZ.out (by have := LT.out; omega))
        have HR4 := hide_ hr4
        have HG4 := hide_ (grown_join HG.out hg4)
        clear hr4 hg4 hix
        have hcx := HX4.out.cell
        have hfx := HX4.out.free9
        simp only [HC.out] at hcx
        have h8 : fr ≤ 255 := HIN.out.2.1
        go_wp2
        clear hcx hfx
        go_roundw
        case rel => exact ⟨2, by omega, rfl, HR4.out.stored (by have := LT.out; omega), grown_stored HG4.out (by omega), box_apart HZ4.out (by omega), HX4.out.set9 1 _⟩
        case measure => simp [intOf]
      · have hix := (head_ix (.pointer (some ⟨w.heap.size + 1, 0, none⟩)) (.pointer (some ⟨w.heap.size + 1, 1, none⟩)) (.pointer (some ⟨w.heap.size + 1, 2, none⟩)) (.pointer (some ⟨w.heap.size + 1, 3, none⟩)) wr).2.2.1
        go_wp2_with fail
        refine (Num_put 255 (n := tt) (t := s3) (HT.out.2.2.1 ▸ HR.out) (HIN.out.2.2.1) (by have := HIN.out.2.2.1; omega) (by rw [HT.out.2.2.1]; exact HL.out.2.2.1)).mono ?_
        rintro en w4 ⟨rfl, hr4, hg4⟩
        have HX4 := hide_ (show BoxAt w4 _ _ _ from box_far hg4 HX.out (by have := LT.out; omega))
        have HZ4 := hide_ (show BoxAt w4 _ _ _ from box_far hg4 HZ.out (by have := LT.out; omega))
        have HR4 := hide_ hr4
        have HG4 := hide_ (grown_join HG.out hg4)
        clear hr4 hg4 hix
        have hcx := HX4.out.cell
        have hfx := HX4.out.free9
        simp only [HC.out] at hcx
        have h8 : tt ≤ 255 := HIN.out.2.2.1
        go_wp2
        clear hcx hfx
        go_roundw
        case rel => exact ⟨3, by omega, rfl, HR4.out.stored (by have := LT.out; omega), grown_stored HG4.out (by omega), box_apart HZ4.out (by omega), HX4.out.set9 2 _⟩
        case measure => simp [intOf]
      · have hix := (head_ix (.pointer (some ⟨w.heap.size + 1, 0, none⟩)) (.pointer (some ⟨w.heap.size + 1, 1, none⟩)) (.pointer (some ⟨w.heap.size + 1, 2, none⟩)) (.pointer (some ⟨w.heap.size + 1, 3, none⟩)) wr).2.2.2
        go_wp2_with fail
        refine (Num_put 255 (n := ke) (t := s4) (HT.out.2.2.2.1 ▸ HR.out) (HIN.out.2.2.2) (by have := HIN.out.2.2.2; omega) (by rw [HT.out.2.2.2.1]; exact HL.out.2.2.2.1)).mono ?_
        rintro en w4 ⟨rfl, hr4, hg4⟩
        have HX4 := hide_ (show BoxAt w4 _ _ _ from box_far hg4 HX.out (by have := LT.out; omega))
        have HZ4 := hide_ (show BoxAt w4 _ _ _ from box_far hg4 HZ.out (by have := LT.out; omega))
        have HR4 := hide_ hr4
        have HG4 := hide_ (grown_join HG.out hg4)
        clear hr4 hg4 hix
        have hcx := HX4.out.cell
        have hfx := HX4.out.free9
        simp only [HC.out] at hcx
        have h8 : ke ≤ 255 := HIN.out.2.2.2
        go_wp2
        clear hcx hfx
        go_roundw
        case rel => exact ⟨4, by omega, rfl, HR4.out.stored (by have := LT.out; omega), grown_stored HG4.out (by omega), box_apart HZ4.out (by omega), HX4.out.set9 3 _⟩
        case measure => simp [intOf]
    · obtain rfl : k = 4 := by omega
      clear hlt hk
      have HXz := hide_ (show BoxAt wr (w.heap.size + 1) #[.int .u8 ki, .int .u8 fr, .int .u8 tt, .int .u8 ke, .int .u64 0, .int .u64 0, .int .u8 0, .int .u32 0, .bool false, .int .u64 0, .int .u8 0, .int .u32 0, .int .u8 0, .int .u64 0, .int .i64 0, .slice none 0 0, .slice none 0 0, .slice none 0 0, .int .u64 0, .slice none 0 0, .int .u64 0, .int .u8 0, .int .u32 0, .int .u64 0] 51 from HX.out)
      have HRz := hide_ (show Rdr wr g s4 0 from HR.out)
      have HGz := hide_ HG.out
      have HZz := hide_ HZ.out
      clear HR HG HZ HX HC
      have hok1 : ((okN ok : Int) == 1) = ok := by cases ok <;> rfl
      go_wp2_with fail
      refine (Num_put 18446744073709551615 (n := co) (t := s5) (HT.out.2.2.2.2.1 ▸ HRz.out) (by have := HCO.out; unfold N64 at this; omega) HCO.out (by rw [HT.out.2.2.2.2.1]; exact HL.out.2.2.2.2.1)).mono ?_
      rintro en u4 ⟨rfl, hr, hg⟩
      have HX4 := hide_ (show BoxAt u4 (w.heap.size + 1) #[.int .u8 ki, .int .u8 fr, .int .u8 tt, .int .u8 ke, .int .u64 0, .int .u64 0, .int .u8 0, .int .u32 0, .bool false, .int .u64 0, .int .u8 0, .int .u32 0, .int .u8 0, .int .u64 0, .int .i64 0, .slice none 0 0, .slice none 0 0, .slice none 0 0, .int .u64 0, .slice none 0 0, .int .u64 0, .int .u8 0, .int .u32 0, .int .u64 0] 51 from box_far hg HXz.out (by have := LT.out; omega))
      have HZ4 := hide_ (show BoxAt u4 w.heap.size #[.int .u8 0, .int .u8 0, .int .u8 0, .int .u8 0, .int .u64 0, .int .u64 0, .int .u8 0, .int .u32 0, .bool false, .int .u64 0, .int .u8 0, .int .u32 0, .int .u8 0, .int .u64 0, .int .i64 0, .slice none 0 0, .slice none 0 0, .slice none 0 0, .int .u64 0, .slice none 0 0, .int .u64 0, .int .u8 0, .int .u32 0, .int .u64 0] 51 from box_far hg HZz.out (by have := LT.out; omega))
      have HR4 := hide_ hr
      have HG4 := hide_ (grown_join HGz.out hg)
      clear hr hg HXz HZz HRz HGz
      have hcx := HX4.out.cell
      have hfx := HX4.out.free9
      go_wp2_with fail
      generalize hW : (u4.setCell ⟨w.heap.size + 1, 4, none⟩ (.int .u64 co)) = V5
      have HX4' := hide_ (show BoxAt V5 (w.heap.size + 1) #[.int .u8 ki, .int .u8 fr, .int .u8 tt, .int .u8 ke, .int .u64 co, .int .u64 0, .int .u8 0, .int .u32 0, .bool false, .int .u64 0, .int .u8 0, .int .u32 0, .int .u8 0, .int .u64 0, .int .i64 0, .slice none 0 0, .slice none 0 0, .slice none 0 0, .int .u64 0, .slice none 0 0, .int .u64 0, .int .u8 0, .int .u32 0, .int .u64 0] 51 from by rw [← hW]; have h := ((HX4.out).set9 4 (.int .u64 co)); simp only [List.setIfInBounds_toArray, List.set_cons_zero, List.set_cons_succ] at h; exact h)
      have HZ4' := hide_ (show BoxAt V5 w.heap.size #[.int .u8 0, .int .u8 0, .int .u8 0, .int .u8 0, .int .u64 0, .int .u64 0, .int .u8 0, .int .u32 0, .bool false, .int .u64 0, .int .u8 0, .int .u32 0, .int .u8 0, .int .u64 0, .int .i64 0, .slice none 0 0, .slice none 0 0, .slice none 0 0, .int .u64 0, .slice none 0 0, .int .u64 0, .int .u8 0, .int .u32 0, .int .u64 0] 51 from by rw [← hW]; exact (box_apart (HZ4.out) (by omega)))
      have HR4' := hide_ (show Rdr V5 g s5 0 from by rw [← hW]; exact (HR4.out).stored (by have := LT.out; omega))
      have HG4' := hide_ (show w.grownBy V5 (some g) from by rw [← hW]; exact (grown_stored (HG4.out) (by omega)))
      clear hW hcx hfx HX4 HZ4 HR4 HG4
      refine (BalGet_put (c := bc) (n := bn) (l := bl) (t := s6) (HT.out.2.2.2.2.2.1 ▸ HR4'.out) HBB.out (by rw [HT.out.2.2.2.2.2.1]; exact HL.out.2.2.2.2.2.1)).mono ?_
      rintro en u5 ⟨rfl, hr, hg⟩
      have HX5 := hide_ (show BoxAt u5 (w.heap.size + 1) #[.int .u8 ki, .int .u8 fr, .int .u8 tt, .int .u8 ke, .int .u64 co, .int .u64 0, .int .u8 0, .int .u32 0, .bool false, .int .u64 0, .int .u8 0, .int .u32 0, .int .u8 0, .int .u64 0, .int .i64 0, .slice none 0 0, .slice none 0 0, .slice none 0 0, .int .u64 0, .slice none 0 0, .int .u64 0, .int .u8 0, .int .u32 0, .int .u64 0] 51 from box_far hg HX4'.out (by have := LT.out; omega))
      have HZ5 := hide_ (show BoxAt u5 w.heap.size #[.int .u8 0, .int .u8 0, .int .u8 0, .int .u8 0, .int .u64 0, .int .u64 0, .int .u8 0, .int .u32 0, .bool false, .int .u64 0, .int .u8 0, .int .u32 0, .int .u8 0, .int .u64 0, .int .i64 0, .slice none 0 0, .slice none 0 0, .slice none 0 0, .int .u64 0, .slice none 0 0, .int .u64 0, .int .u8 0, .int .u32 0, .int .u64 0] 51 from box_far hg HZ4'.out (by have := LT.out; omega))
      have HR5 := hide_ hr
      have HG5 := hide_ (grown_join HG4'.out hg)
      clear hr hg HX4' HZ4' HR4' HG4'
      have hcx := HX5.out.cell
      have hfx := HX5.out.free9
      go_wp2_with fail
      generalize hW : (((u5.setCell ⟨w.heap.size + 1, 5, none⟩ (.int .u64 bc)).setCell ⟨w.heap.size + 1, 6, none⟩ (.int .u8 bn)).setCell ⟨w.heap.size + 1, 7, none⟩ (.int .u32 bl)) = V6
      have HX5' := hide_ (show BoxAt V6 (w.heap.size + 1) #[.int .u8 ki, .int .u8 fr, .int .u8 tt, .int .u8 ke, .int .u64 co, .int .u64 bc, .int .u8 bn, .int .u32 bl, .bool false, .int .u64 0, .int .u8 0, .int .u32 0, .int .u8 0, .int .u64 0, .int .i64 0, .slice none 0 0, .slice none 0 0, .slice none 0 0, .int .u64 0, .slice none 0 0, .int .u64 0, .int .u8 0, .int .u32 0, .int .u64 0] 51 from by rw [← hW]; have h := ((((((HX5.out).set9 5 (.int .u64 bc))).set9 6 (.int .u8 bn))).set9 7 (.int .u32 bl)); simp only [List.setIfInBounds_toArray, List.set_cons_zero, List.set_cons_succ] at h; exact h)
      have HZ5' := hide_ (show BoxAt V6 w.heap.size #[.int .u8 0, .int .u8 0, .int .u8 0, .int .u8 0, .int .u64 0, .int .u64 0, .int .u8 0, .int .u32 0, .bool false, .int .u64 0, .int .u8 0, .int .u32 0, .int .u8 0, .int .u64 0, .int .i64 0, .slice none 0 0, .slice none 0 0, .slice none 0 0, .int .u64 0, .slice none 0 0, .int .u64 0, .int .u8 0, .int .u32 0, .int .u64 0] 51 from by rw [← hW]; exact (box_apart ((box_apart ((box_apart (HZ5.out) (by omega))) (by omega))) (by omega)))
      have HR5' := hide_ (show Rdr V6 g s6 0 from by rw [← hW]; exact (((HR5.out).stored (by have := LT.out; omega)).stored (by have := LT.out; omega)).stored (by have := LT.out; omega))
      have HG5' := hide_ (show w.grownBy V6 (some g) from by rw [← hW]; exact (grown_stored ((grown_stored ((grown_stored (HG5.out) (by omega))) (by omega))) (by omega)))
      clear hW hcx hfx HX5 HZ5 HR5 HG5
      refine (Num_put 1 (n := okN ok) (t := s7) (HT.out.2.2.2.2.2.2.1 ▸ HR5'.out) (by cases ok <;> simp [okN]) (by cases ok <;> simp [okN]) (by rw [HT.out.2.2.2.2.2.2.1]; exact HL.out.2.2.2.2.2.2.1)).mono ?_
      rintro en u6 ⟨rfl, hr, hg⟩
      have HX6 := hide_ (show BoxAt u6 (w.heap.size + 1) #[.int .u8 ki, .int .u8 fr, .int .u8 tt, .int .u8 ke, .int .u64 co, .int .u64 bc, .int .u8 bn, .int .u32 bl, .bool false, .int .u64 0, .int .u8 0, .int .u32 0, .int .u8 0, .int .u64 0, .int .i64 0, .slice none 0 0, .slice none 0 0, .slice none 0 0, .int .u64 0, .slice none 0 0, .int .u64 0, .int .u8 0, .int .u32 0, .int .u64 0] 51 from box_far hg HX5'.out (by have := LT.out; omega))
      have HZ6 := hide_ (show BoxAt u6 w.heap.size #[.int .u8 0, .int .u8 0, .int .u8 0, .int .u8 0, .int .u64 0, .int .u64 0, .int .u8 0, .int .u32 0, .bool false, .int .u64 0, .int .u8 0, .int .u32 0, .int .u8 0, .int .u64 0, .int .i64 0, .slice none 0 0, .slice none 0 0, .slice none 0 0, .int .u64 0, .slice none 0 0, .int .u64 0, .int .u8 0, .int .u32 0, .int .u64 0] 51 from box_far hg HZ5'.out (by have := LT.out; omega))
      have HR6 := hide_ hr
      have HG6 := hide_ (grown_join HG5'.out hg)
      clear hr hg HX5' HZ5' HR5' HG5'
      have hcx := HX6.out.cell
      have hfx := HX6.out.free9
      go_wp2_with fail
      generalize hW : (u6.setCell ⟨w.heap.size + 1, 8, none⟩ (.bool ok)) = V7
      have HX6' := hide_ (show BoxAt V7 (w.heap.size + 1) #[.int .u8 ki, .int .u8 fr, .int .u8 tt, .int .u8 ke, .int .u64 co, .int .u64 bc, .int .u8 bn, .int .u32 bl, .bool ok, .int .u64 0, .int .u8 0, .int .u32 0, .int .u8 0, .int .u64 0, .int .i64 0, .slice none 0 0, .slice none 0 0, .slice none 0 0, .int .u64 0, .slice none 0 0, .int .u64 0, .int .u8 0, .int .u32 0, .int .u64 0] 51 from by rw [← hW]; have h := ((HX6.out).set9 8 (.bool ok)); simp only [List.setIfInBounds_toArray, List.set_cons_zero, List.set_cons_succ] at h; exact h)
      have HZ6' := hide_ (show BoxAt V7 w.heap.size #[.int .u8 0, .int .u8 0, .int .u8 0, .int .u8 0, .int .u64 0, .int .u64 0, .int .u8 0, .int .u32 0, .bool false, .int .u64 0, .int .u8 0, .int .u32 0, .int .u8 0, .int .u64 0, .int .i64 0, .slice none 0 0, .slice none 0 0, .slice none 0 0, .int .u64 0, .slice none 0 0, .int .u64 0, .int .u8 0, .int .u32 0, .int .u64 0] 51 from by rw [← hW]; exact (box_apart (HZ6.out) (by omega)))
      have HR6' := hide_ (show Rdr V7 g s7 0 from by rw [← hW]; exact (HR6.out).stored (by have := LT.out; omega))
      have HG6' := hide_ (show w.grownBy V7 (some g) from by rw [← hW]; exact (grown_stored (HG6.out) (by omega)))
      clear hW hcx hfx HX6 HZ6 HR6 HG6
      refine (BalGet_put (c := ac) (n := an) (l := al) (t := s8) (HT.out.2.2.2.2.2.2.2.1 ▸ HR6'.out) HAB.out (by rw [HT.out.2.2.2.2.2.2.2.1]; exact HL.out.2.2.2.2.2.2.2.1)).mono ?_
      rintro en u7 ⟨rfl, hr, hg⟩
      have HX7 := hide_ (show BoxAt u7 (w.heap.size + 1) #[.int .u8 ki, .int .u8 fr, .int .u8 tt, .int .u8 ke, .int .u64 co, .int .u64 bc, .int .u8 bn, .int .u32 bl, .bool ok, .int .u64 0, .int .u8 0, .int .u32 0, .int .u8 0, .int .u64 0, .int .i64 0, .slice none 0 0, .slice none 0 0, .slice none 0 0, .int .u64 0, .slice none 0 0, .int .u64 0, .int .u8 0, .int .u32 0, .int .u64 0] 51 from box_far hg HX6'.out (by have := LT.out; omega))
      have HZ7 := hide_ (show BoxAt u7 w.heap.size #[.int .u8 0, .int .u8 0, .int .u8 0, .int .u8 0, .int .u64 0, .int .u64 0, .int .u8 0, .int .u32 0, .bool false, .int .u64 0, .int .u8 0, .int .u32 0, .int .u8 0, .int .u64 0, .int .i64 0, .slice none 0 0, .slice none 0 0, .slice none 0 0, .int .u64 0, .slice none 0 0, .int .u64 0, .int .u8 0, .int .u32 0, .int .u64 0] 51 from box_far hg HZ6'.out (by have := LT.out; omega))
      have HR7 := hide_ hr
      have HG7 := hide_ (grown_join HG6'.out hg)
      clear hr hg HX6' HZ6' HR6' HG6'
      have hcx := HX7.out.cell
      have hfx := HX7.out.free9
      go_wp2_with fail
      generalize hW : (((u7.setCell ⟨w.heap.size + 1, 9, none⟩ (.int .u64 ac)).setCell ⟨w.heap.size + 1, 10, none⟩ (.int .u8 an)).setCell ⟨w.heap.size + 1, 11, none⟩ (.int .u32 al)) = V8
      have HX7' := hide_ (show BoxAt V8 (w.heap.size + 1) #[.int .u8 ki, .int .u8 fr, .int .u8 tt, .int .u8 ke, .int .u64 co, .int .u64 bc, .int .u8 bn, .int .u32 bl, .bool ok, .int .u64 ac, .int .u8 an, .int .u32 al, .int .u8 0, .int .u64 0, .int .i64 0, .slice none 0 0, .slice none 0 0, .slice none 0 0, .int .u64 0, .slice none 0 0, .int .u64 0, .int .u8 0, .int .u32 0, .int .u64 0] 51 from by rw [← hW]; have h := ((((((HX7.out).set9 9 (.int .u64 ac))).set9 10 (.int .u8 an))).set9 11 (.int .u32 al)); simp only [List.setIfInBounds_toArray, List.set_cons_zero, List.set_cons_succ] at h; exact h)
      have HZ7' := hide_ (show BoxAt V8 w.heap.size #[.int .u8 0, .int .u8 0, .int .u8 0, .int .u8 0, .int .u64 0, .int .u64 0, .int .u8 0, .int .u32 0, .bool false, .int .u64 0, .int .u8 0, .int .u32 0, .int .u8 0, .int .u64 0, .int .i64 0, .slice none 0 0, .slice none 0 0, .slice none 0 0, .int .u64 0, .slice none 0 0, .int .u64 0, .int .u8 0, .int .u32 0, .int .u64 0] 51 from by rw [← hW]; exact (box_apart ((box_apart ((box_apart (HZ7.out) (by omega))) (by omega))) (by omega)))
      have HR7' := hide_ (show Rdr V8 g s8 0 from by rw [← hW]; exact (((HR7.out).stored (by have := LT.out; omega)).stored (by have := LT.out; omega)).stored (by have := LT.out; omega))
      have HG7' := hide_ (show w.grownBy V8 (some g) from by rw [← hW]; exact (grown_stored ((grown_stored ((grown_stored (HG7.out) (by omega))) (by omega))) (by omega)))
      clear hW hcx hfx HX7 HZ7 HR7 HG7
      refine (RegGet_put (rb := rb) (t := s9) HGET.out (HT.out.2.2.2.2.2.2.2.2.1 ▸ HR7'.out) (by rw [HT.out.2.2.2.2.2.2.2.2.1]; exact HL.out.2.2.2.2.2.2.2.2.1)).mono ?_
      rintro en u8 ⟨y, rfl, hyp, hy, hly, hr, hg⟩
      have HLO := hide_ (show w.heap.size + 1 < V8.heap.size from HX7'.out.lt)
      obtain ⟨rk, inc, st, ⟨vA, vc, vl⟩, ⟨dA, dc, dl⟩, ⟨oA, oc, ol⟩, la, ⟨mA, mc, ml⟩⟩ := y
      simp only [RegM.v, Sl.v]
      have HSV := hide_ (Nat.le_refl u8.heap.size)
      have HYP := hide_ hyp
      have HY := hide_ hy
      have HLY := hide_ hly
      have HGW := hide_ (show w.heap.size ≤ V8.heap.size from HG7'.out.size)
      clear hyp hy hly
      have HX8 := hide_ (show BoxAt u8 (w.heap.size + 1) #[.int .u8 ki, .int .u8 fr, .int .u8 tt, .int .u8 ke, .int .u64 co, .int .u64 bc, .int .u8 bn, .int .u32 bl, .bool ok, .int .u64 ac, .int .u8 an, .int .u32 al, .int .u8 0, .int .u64 0, .int .i64 0, .slice none 0 0, .slice none 0 0, .slice none 0 0, .int .u64 0, .slice none 0 0, .int .u64 0, .int .u8 0, .int .u32 0, .int .u64 0] 51 from box_far hg HX7'.out (by have := LT.out; omega))
      have HZ8 := hide_ (show BoxAt u8 w.heap.size #[.int .u8 0, .int .u8 0, .int .u8 0, .int .u8 0, .int .u64 0, .int .u64 0, .int .u8 0, .int .u32 0, .bool false, .int .u64 0, .int .u8 0, .int .u32 0, .int .u8 0, .int .u64 0, .int .i64 0, .slice none 0 0, .slice none 0 0, .slice none 0 0, .int .u64 0, .slice none 0 0, .int .u64 0, .int .u8 0, .int .u32 0, .int .u64 0] 51 from box_far hg HZ7'.out (by have := LT.out; omega))
      have HR8 := hide_ hr
      have HG8 := hide_ (grown_join HG7'.out hg)
      clear hr hg HX7' HZ7' HR7' HG7'
      go_wp2_with (refine st_reg (by rfl) _ _ (by rfl) (by rfl) (by rfl) (by rfl) (by simp [Value.oneCell']) HX8.out (by simp) ?_; intro V9 HV9)
      have hW : ((((((((u8.setCell ⟨w.heap.size + 1, 12, none⟩ (.int .u8 rk)).setCell ⟨w.heap.size + 1, 13, none⟩ (.int .u64 inc)).setCell ⟨w.heap.size + 1, 14, none⟩ (.int .i64 st)).setCell ⟨w.heap.size + 1, 15, none⟩ (.slice vA vl.length vc)).setCell ⟨w.heap.size + 1, 16, none⟩ (.slice dA dl.length dc)).setCell ⟨w.heap.size + 1, 17, none⟩ (.slice oA ol.length oc)).setCell ⟨w.heap.size + 1, 18, none⟩ (.int .u64 la)).setCell ⟨w.heap.size + 1, 19, none⟩ (.slice mA ml.length mc)) = V9 := HV9.out
      have HX8' := hide_ (show BoxAt V9 (w.heap.size + 1) #[.int .u8 ki, .int .u8 fr, .int .u8 tt, .int .u8 ke, .int .u64 co, .int .u64 bc, .int .u8 bn, .int .u32 bl, .bool ok, .int .u64 ac, .int .u8 an, .int .u32 al, .int .u8 rk, .int .u64 inc, .int .i64 st, .slice vA vl.length vc, .slice dA dl.length dc, .slice oA ol.length oc, .int .u64 la, .slice mA ml.length mc, .int .u64 0, .int .u8 0, .int .u32 0, .int .u64 0] 51 from by rw [← hW]; have h := ((((((((((((((((HX8.out).set9 12 (.int .u8 rk))).set9 13 (.int .u64 inc))).set9 14 (.int .i64 st))).set9 15 (.slice vA vl.length vc))).set9 16 (.slice dA dl.length dc))).set9 17 (.slice oA ol.length oc))).set9 18 (.int .u64 la))).set9 19 (.slice mA ml.length mc)); simp only [List.setIfInBounds_toArray, List.set_cons_zero, List.set_cons_succ] at h; exact h)
      have HZ8' := hide_ (show BoxAt V9 w.heap.size #[.int .u8 0, .int .u8 0, .int .u8 0, .int .u8 0, .int .u64 0, .int .u64 0, .int .u8 0, .int .u32 0, .bool false, .int .u64 0, .int .u8 0, .int .u32 0, .int .u8 0, .int .u64 0, .int .i64 0, .slice none 0 0, .slice none 0 0, .slice none 0 0, .int .u64 0, .slice none 0 0, .int .u64 0, .int .u8 0, .int .u32 0, .int .u64 0] 51 from by rw [← hW]; exact (box_apart ((box_apart ((box_apart ((box_apart ((box_apart ((box_apart ((box_apart ((box_apart (HZ8.out) (by omega))) (by omega))) (by omega))) (by omega))) (by omega))) (by omega))) (by omega))) (by omega)))
      have HR8' := hide_ (show Rdr V9 g s9 0 from by rw [← hW]; exact ((((((((HR8.out).stored (by have := LT.out; omega)).stored (by have := LT.out; omega)).stored (by have := LT.out; omega)).stored (by have := LT.out; omega)).stored (by have := LT.out; omega)).stored (by have := LT.out; omega)).stored (by have := LT.out; omega)).stored (by have := LT.out; omega))
      have HG8' := hide_ (show w.grownBy V9 (some g) from by rw [← hW]; exact (grown_stored ((grown_stored ((grown_stored ((grown_stored ((grown_stored ((grown_stored ((grown_stored ((grown_stored (HG8.out) (by omega))) (by omega))) (by omega))) (by omega))) (by omega))) (by omega))) (by omega))) (by omega)))
      have HY' := hide_ (show RegM.ok V9 V9.heap.size (⟨rk, inc, st, ⟨vA, vc, vl⟩, ⟨dA, dc, dl⟩, ⟨oA, oc, ol⟩, la, ⟨mA, mc, ml⟩⟩) from by rw [← hW]; exact (keep_stored reg_local ((keep_stored reg_local ((keep_stored reg_local ((keep_stored reg_local ((keep_stored reg_local ((keep_stored reg_local ((keep_stored reg_local ((keep_stored reg_local (HY.out) HLY.out (by have := HLO.out; omega))) HLY.out (by have := HLO.out; omega))) HLY.out (by have := HLO.out; omega))) HLY.out (by have := HLO.out; omega))) HLY.out (by have := HLO.out; omega))) HLY.out (by have := HLO.out; omega))) HLY.out (by have := HLO.out; omega))) HLY.out (by have := HLO.out; omega)))
      have HSV' := hide_ (show u8.heap.size ≤ V9.heap.size from by rw [← hW]; simpa [World.setCell] using HSV.out)
      clear HY HSV
      have HSV := hide_ HSV'.out
      clear HSV'
      have HY := hide_ HY'.out
      clear HY'
      clear hW HV9 HX8 HZ8 HR8 HG8
      refine (BalGet_put (c := nc) (n := nn) (l := nl) (t := s10) (HT.out.2.2.2.2.2.2.2.2.2.1 ▸ HR8'.out) HNB.out (by rw [HT.out.2.2.2.2.2.2.2.2.2.1]; exact HL.out.2.2.2.2.2.2.2.2.2.1)).mono ?_
      rintro en u9 ⟨rfl, hr, hg⟩
      have HY2 := hide_ (Local.grown reg_local HY.out hg (fun k hk e => by have h1 := (HLY.out k hk).1; have h2 := HLO.out; have h3 := LT.out; injection e with e; omega))
      have HSV2 := hide_ (Nat.le_trans HSV.out hg.size)
      clear HY HSV
      have HSV := hide_ HSV2.out
      clear HSV2
      have HY := hide_ HY2.out
      clear HY2
      have HX9 := hide_ (show BoxAt u9 (w.heap.size + 1) #[.int .u8 ki, .int .u8 fr, .int .u8 tt, .int .u8 ke, .int .u64 co, .int .u64 bc, .int .u8 bn, .int .u32 bl, .bool ok, .int .u64 ac, .int .u8 an, .int .u32 al, .int .u8 rk, .int .u64 inc, .int .i64 st, .slice vA vl.length vc, .slice dA dl.length dc, .slice oA ol.length oc, .int .u64 la, .slice mA ml.length mc, .int .u64 0, .int .u8 0, .int .u32 0, .int .u64 0] 51 from box_far hg HX8'.out (by have := LT.out; omega))
      have HZ9 := hide_ (show BoxAt u9 w.heap.size #[.int .u8 0, .int .u8 0, .int .u8 0, .int .u8 0, .int .u64 0, .int .u64 0, .int .u8 0, .int .u32 0, .bool false, .int .u64 0, .int .u8 0, .int .u32 0, .int .u8 0, .int .u64 0, .int .i64 0, .slice none 0 0, .slice none 0 0, .slice none 0 0, .int .u64 0, .slice none 0 0, .int .u64 0, .int .u8 0, .int .u32 0, .int .u64 0] 51 from box_far hg HZ8'.out (by have := LT.out; omega))
      have HR9 := hide_ hr
      have HG9 := hide_ (grown_join HG8'.out hg)
      clear hr hg HX8' HZ8' HR8' HG8'
      have hcx := HX9.out.cell
      have hfx := HX9.out.free9
      go_wp2_with fail
      generalize hW : (((u9.setCell ⟨w.heap.size + 1, 20, none⟩ (.int .u64 nc)).setCell ⟨w.heap.size + 1, 21, none⟩ (.int .u8 nn)).setCell ⟨w.heap.size + 1, 22, none⟩ (.int .u32 nl)) = V10
      have HX9' := hide_ (show BoxAt V10 (w.heap.size + 1) #[.int .u8 ki, .int .u8 fr, .int .u8 tt, .int .u8 ke, .int .u64 co, .int .u64 bc, .int .u8 bn, .int .u32 bl, .bool ok, .int .u64 ac, .int .u8 an, .int .u32 al, .int .u8 rk, .int .u64 inc, .int .i64 st, .slice vA vl.length vc, .slice dA dl.length dc, .slice oA ol.length oc, .int .u64 la, .slice mA ml.length mc, .int .u64 nc, .int .u8 nn, .int .u32 nl, .int .u64 0] 51 from by rw [← hW]; have h := ((((((HX9.out).set9 20 (.int .u64 nc))).set9 21 (.int .u8 nn))).set9 22 (.int .u32 nl)); simp only [List.setIfInBounds_toArray, List.set_cons_zero, List.set_cons_succ] at h; exact h)
      have HZ9' := hide_ (show BoxAt V10 w.heap.size #[.int .u8 0, .int .u8 0, .int .u8 0, .int .u8 0, .int .u64 0, .int .u64 0, .int .u8 0, .int .u32 0, .bool false, .int .u64 0, .int .u8 0, .int .u32 0, .int .u8 0, .int .u64 0, .int .i64 0, .slice none 0 0, .slice none 0 0, .slice none 0 0, .int .u64 0, .slice none 0 0, .int .u64 0, .int .u8 0, .int .u32 0, .int .u64 0] 51 from by rw [← hW]; exact (box_apart ((box_apart ((box_apart (HZ9.out) (by omega))) (by omega))) (by omega)))
      have HR9' := hide_ (show Rdr V10 g s10 0 from by rw [← hW]; exact (((HR9.out).stored (by have := LT.out; omega)).stored (by have := LT.out; omega)).stored (by have := LT.out; omega))
      have HG9' := hide_ (show w.grownBy V10 (some g) from by rw [← hW]; exact (grown_stored ((grown_stored ((grown_stored (HG9.out) (by omega))) (by omega))) (by omega)))
      have HY' := hide_ (show RegM.ok V10 V10.heap.size (⟨rk, inc, st, ⟨vA, vc, vl⟩, ⟨dA, dc, dl⟩, ⟨oA, oc, ol⟩, la, ⟨mA, mc, ml⟩⟩) from by rw [← hW]; exact (keep_stored reg_local ((keep_stored reg_local ((keep_stored reg_local (HY.out) HLY.out (by have := HLO.out; omega))) HLY.out (by have := HLO.out; omega))) HLY.out (by have := HLO.out; omega)))
      have HSV' := hide_ (show u8.heap.size ≤ V10.heap.size from by rw [← hW]; simpa [World.setCell] using HSV.out)
      clear HY HSV
      have HSV := hide_ HSV'.out
      clear HSV'
      have HY := hide_ HY'.out
      clear HY'
      clear hW hcx hfx HX9 HZ9 HR9 HG9
      refine (Num_put 18446744073709551615 (n := mx) (t := t) (HT.out.2.2.2.2.2.2.2.2.2.2 ▸ HR9'.out) (by have := HMX.out; unfold N64 at this; omega) HMX.out (by rw [HT.out.2.2.2.2.2.2.2.2.2.2]; exact HL.out.2.2.2.2.2.2.2.2.2.2)).mono ?_
      rintro en u10 ⟨rfl, hr, hg⟩
      have HY2 := hide_ (Local.grown reg_local HY.out hg (fun k hk e => by have h1 := (HLY.out k hk).1; have h2 := HLO.out; have h3 := LT.out; injection e with e; omega))
      have HSV2 := hide_ (Nat.le_trans HSV.out hg.size)
      clear HY HSV
      have HSV := hide_ HSV2.out
      clear HSV2
      have HY := hide_ HY2.out
      clear HY2
      have HX10 := hide_ (show BoxAt u10 (w.heap.size + 1) #[.int .u8 ki, .int .u8 fr, .int .u8 tt, .int .u8 ke, .int .u64 co, .int .u64 bc, .int .u8 bn, .int .u32 bl, .bool ok, .int .u64 ac, .int .u8 an, .int .u32 al, .int .u8 rk, .int .u64 inc, .int .i64 st, .slice vA vl.length vc, .slice dA dl.length dc, .slice oA ol.length oc, .int .u64 la, .slice mA ml.length mc, .int .u64 nc, .int .u8 nn, .int .u32 nl, .int .u64 0] 51 from box_far hg HX9'.out (by have := LT.out; omega))
      have HZ10 := hide_ (show BoxAt u10 w.heap.size #[.int .u8 0, .int .u8 0, .int .u8 0, .int .u8 0, .int .u64 0, .int .u64 0, .int .u8 0, .int .u32 0, .bool false, .int .u64 0, .int .u8 0, .int .u32 0, .int .u8 0, .int .u64 0, .int .i64 0, .slice none 0 0, .slice none 0 0, .slice none 0 0, .int .u64 0, .slice none 0 0, .int .u64 0, .int .u8 0, .int .u32 0, .int .u64 0] 51 from box_far hg HZ9'.out (by have := LT.out; omega))
      have HR10 := hide_ hr
      have HG10 := hide_ (grown_join HG9'.out hg)
      clear hr hg HX9' HZ9' HR9' HG9'
      have hcx := HX10.out.cell
      have hfx := HX10.out.free9
      go_wp2_with (first | (refine ld_msg (by rfl) _ (by rfl) (show BoxAt (u10.setCell ⟨w.heap.size + 1, 23, none⟩ (.int .u64 mx)) (w.heap.size + 1) #[.int .u8 ki, .int .u8 fr, .int .u8 tt, .int .u8 ke, .int .u64 co, .int .u64 bc, .int .u8 bn, .int .u32 bl, .bool ok, .int .u64 ac, .int .u8 an, .int .u32 al, .int .u8 rk, .int .u64 inc, .int .i64 st, .slice vA vl.length vc, .slice dA dl.length dc, .slice oA ol.length oc, .int .u64 la, .slice mA ml.length mc, .int .u64 nc, .int .u8 nn, .int .u32 nl, .int .u64 mx] 51 from HX10.out.set9 23 (.int .u64 mx)) rfl (by rfl) ?_) | (refine st_msg (by rfl) _ _ (by rfl) (by rfl) (by rfl) rfl (by rfl) (by simp [Value.oneCell']) (show BoxAt (u10.setCell ⟨w.heap.size + 1, 23, none⟩ (.int .u64 mx)) w.heap.size #[.int .u8 0, .int .u8 0, .int .u8 0, .int .u8 0, .int .u64 0, .int .u64 0, .int .u8 0, .int .u32 0, .bool false, .int .u64 0, .int .u8 0, .int .u32 0, .int .u8 0, .int .u64 0, .int .i64 0, .slice none 0 0, .slice none 0 0, .slice none 0 0, .int .u64 0, .slice none 0 0, .int .u64 0, .int .u8 0, .int .u32 0, .int .u64 0] 51 from box_apart HZ10.out (by omega)) (by rfl) ?_; intro VZ HBZ HGZ HSZ))
      have HYZ := hide_ (Local.grown reg_local (keep_stored (z := w.heap.size + 1) (i := 23) (v := .int .u64 mx) reg_local HY.out HLY.out (by have := HLO.out; omega)) HGZ.out (fun k hk e => by have h1 := (HLY.out k hk).1; have h2 := HLO.out; injection e with e; omega))
      have HRZ := hide_ (((HR10.out).stored (b := w.heap.size + 1) (i := 23) (v := .int .u64 mx) (by have := LT.out; omega)).other HGZ.out (fun k e => by injection e with e; have := LT.out; omega))
      have HGG := hide_ (grown_also (grown_stored (b := w.heap.size + 1) (i := 23) (v := .int .u64 mx) HG10.out (by omega)) HGZ.out (fun k e => by injection e with e; omega))
      have HSS := hide_ (show u8.heap.size ≤ VZ.heap.size from by rw [HSZ.out]; simpa [World.setCell] using HSV.out)
      refine bodyPost_ret (v := .agg #[.int .u8 ki, .int .u8 fr, .int .u8 tt, .int .u8 ke, .int .u64 co, .int .u64 bc, .int .u8 bn, .int .u32 bl, .bool ok, .int .u64 ac, .int .u8 an, .int .u32 al, .int .u8 rk, .int .u64 inc, .int .i64 st, .slice vA vl.length vc, .slice dA dl.length dc, .slice oA ol.length oc, .int .u64 la, .slice mA ml.length mc, .int .u64 nc, .int .u8 nn, .int .u32 nl, .int .u64 mx]) (res_msg (by rfl) (by rfl) HBZ.out rfl) rfl ?_
      refine ⟨⟨ki, fr, tt, ke, co, bc, bn, bl, ok, ac, an, al, ⟨rk, inc, st, ⟨vA, vc, vl⟩, ⟨dA, dc, dl⟩, ⟨oA, oc, ol⟩, la, ⟨mA, mc, ml⟩⟩, nc, nn, nl, mx⟩, rfl, ?_, ⟨⟨HIN.out, ⟨HCO.out, HMX.out⟩, HBB.out, HAB.out, HNB.out⟩, HYZ.out⟩, fun k hk => ⟨Nat.le_trans HGW.out (HLY.out k hk).1, Nat.lt_of_lt_of_le (HLY.out k hk).2 HSS.out⟩, HRZ.out, HGG.out⟩
      rw [HMP.out, ← HYP.out]
      rfl
end Go.Proofs.YtkgnondlcaklnaaGreat
