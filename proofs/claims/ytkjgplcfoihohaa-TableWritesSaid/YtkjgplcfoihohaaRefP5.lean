/-
  Contracts of the reference's num and formula (layer 5): what is put stands behind bytes of one's own.
-/
import Derived.Test.YtkjgplcfoihohaaPutT3
import Derived.Test.YtkjgplcfoihohaaRef
namespace Go.Proofs.Ytkjgplcfoihohaa
open Go.RowKit

set_option maxRecDepth 100000 in
theorem num5_any (l r : List UInt8) (n : Int) (base : Nat) (v : Value) (w : World) (hres : l ++ natB n = r) (hn : 0 ≤ n ∧ n ≤ 9223372036854775807) (hl : l.length ≤ 1000000)
    (hown : w.ownsRow base 5 1 v l.length (bv l)) (hbase : base ≤ w.heap.size) :
    Calls Try.prog 35 #[v, .int .i64 n] w (PutsOn base v r w) := by
  obtain ⟨y, rfl⟩ := Int.eq_ofNat_of_zero_le hn.1
  have hy : y < 9223372036854775808 := by omega
  have HO := hide_ hown
  have HR := hide_ (show l ++ numB y = r from hres)
  have HNL := hide_ (numB_length y (by omega))
  clear hown hres hn
  go_enter Try.func35, Try.ntmps35
  go_wp2_with fail
  refine (refNum_any y (numB y) _ rfl (by omega)).mono ?_
  rintro en w2 ⟨A2, c2, rfl, hown2, hb2⟩
  have HB2 := hide_ hb2
  have HO2 := hide_ hown2
  clear hb2 hown2
  go_wp2_with (at_builtin; refine wpList_append_row _ rfl _ _ 27 rfl base u8_info Try.underlying27 _ l (numB y) r HR.out rfl (own_below HO.out HB2.out) w2.heap.size A2 (numB y).length c2 rfl rfl (Sees.own HO2.out) ⟨by omega, by have := HNL.out; omega⟩ (by have := HB2.out.size; omega) ?_; intro A3 c3 w3 hst; have HST := hide_ (RowStep.fresh HB2.out hst); clear hst)
  go_ret
  exact ⟨_, _, rfl, HST.out⟩

set_option maxRecDepth 100000 in
set_option maxHeartbeats 800000 in
theorem rfml5_any (l r : List UInt8) (s : TokS) (n : Nat) (hnn : s.l.length = n) (base : Nat) (v : Value) (B : Nat) (w : World) (hres : l ++ fmlB s.l = r) (hl : l.length ≤ 900000) (hn : s.l.length ≤ 24) (hs : toksOk w B s) (hB : B ≤ base)
    (hown : w.ownsRow base 5 1 v l.length (bv l)) (hbase : base ≤ w.heap.size) :
    Calls Try.prog 36 #[v, .slice s.A n s.c] w (PutsOn base v r w) := by
  obtain ⟨A, c, f⟩ := s
  simp only at hnn
  simp only [hnn] at hn
  have HS := hide_ hs.2.2.1
  have HT := hide_ hs.2.2.2
  have HN := hide_ hnn
  have HO := hide_ hown
  have HR := hide_ (show (l ++ natB n) ++ (f.take n).flatMap tokB = r by
    rw [← hnn, List.take_length, List.append_assoc]
    exact hres)
  have HLE := hide_ (show (l ++ natB n).length ≤ 900010 by rw [List.length_append]; have := natB_len n (by omega); omega)
  clear hs hnn hown hres
  go_enter Try.func36, Try.ntmps36
  go_wp2_with fail
  refine (num5_any l (l ++ natB n) n base v _ rfl (by omega) (by omega) HO.out hbase).mono ?_
  rintro en w1 ⟨A1, c1, rfl, hst1⟩
  have HST := hide_ hst1
  clear hst1
  obtain ⟨l1, hl1⟩ : ∃ l1, l ++ natB n = l1 := ⟨_, rfl⟩
  rw [hl1] at HST HR HLE
  rw [hl1]
  clear hl1
  go_wp2
  go_loopw [0, 12] (fun b i wr => ∃ (k : Nat), k ≤ n ∧ i = .int .i64 k ∧ Hid (RowStep base v w b wr (l1 ++ (f.take k).flatMap tokB))) (fun _ i _ => n - (intOf i).toNat)
  case atStart => exact ⟨0, Nat.zero_le _, rfl, hide_ (by simpa using HST.out)⟩
  case round =>
    obtain ⟨k, hk, rfl, HK⟩ := hrel
    have hzw : w.heap.size ≤ wr.heap.size := HK.out.grow.size
    have hbw : Below B w wr := HK.out.below HO.out hB (by omega)
    by_cases hlt : k < n
    · have hs1 := HS.out.below hbw
      obtain ⟨tb, ot, rfl, hab, h0, h1⟩ := hs1.tok (k := k) (by rw [HN.out]; exact hlt)
      have hwz : tb < wr.heap.size := by omega
      have hx : f[k]? = some (tk f k) := by unfold tk; rw [List.getD_eq_getElem?_getD, List.getElem?_eq_getElem (by rw [HN.out]; exact hlt)]; rfl
      have hxi := HT.out (tk f k) (List.mem_of_getElem? hx)
      have HX := hide_ (show l1 ++ (f.take (k + 1)).flatMap tokB = ((l1 ++ (f.take k).flatMap tokB) ++ natB (tk f k).1) ++ intB (tk f k).2 by
        rw [flat_snoc hx]
        unfold tokB
        simp only [List.append_assoc])
      have HLN := hide_ (show (l1 ++ (f.take k).flatMap tokB).length ≤ 950000 by
        have h1 := flat_take_le (f := tokB) (q := 20) f (fun z hz => tokB_len z (HT.out z hz)) k
        have h2 := HLE.out
        rw [HN.out] at h1
        rw [List.length_append]
        omega)
      generalize tk f k = t at h0 h1 hxi HX
      obtain ⟨o, N⟩ := t
      simp only at h0 h1 HX
      obtain ⟨l2, hl2⟩ : ∃ l2, l1 ++ (f.take (k + 1)).flatMap tokB = l2 := ⟨_, rfl⟩
      rw [hl2] at HX
      have HL2 := hide_ hl2
      have HS1 := hide_ hs1
      clear hl2 hx hs1
      generalize l1 ++ (f.take k).flatMap tokB = la at HX HLN HK
      have HI := hide_ hxi.2.2
      have o1 : 0 ≤ o := hxi.1
      have o2 : o ≤ 255 := hxi.2.1
      clear hxi
      obtain ⟨lb, hlb⟩ : ∃ lb, la ++ natB o = lb := ⟨_, rfl⟩
      rw [hlb] at HX
      have HLB := hide_ hlb
      have HLL := hide_ (show lb.length ≤ 950010 ∧ (intB N).length ≤ 10 by
        have h3 := HLN.out
        rw [← hlb, List.length_append]
        have := natB_len o (by omega)
        have := intB_len N HI.out
        omega)
      have HBW := hide_ hbw
      have HH1 := hide_ h1
      clear hlb hbw h1
      go_wp2_with fail
      refine (num5_any la lb o base _ _ HLB.out ⟨o1, by omega⟩ (by have := HLN.out; omega) HK.out.own (by omega)).mono ?_
      rintro en w2 ⟨A2, c2, rfl, hst2⟩
      have HST2 := hide_ (HK.out.trans hst2)
      have h1 : w2.cell? ⟨tb, ot + k * 2 + 1, none⟩ = some (.int .i64 N) := ((hst2.below HK.out.own hB (by omega)).cell (p := ⟨tb, ot + k * 2 + 1, none⟩) hab).trans HH1.out
      have hwz2 : tb < w2.heap.size := by have := hst2.grow.size; omega
      have hz2 : w.heap.size ≤ w2.heap.size := HST2.out.grow.size
      clear hst2 h0
      go_wp2_with fail
      refine (refInt_any N (intB N) _ rfl HI.out.1 HI.out.2).mono ?_
      rintro en w3 ⟨A3, c3, rfl, hown3, hb3⟩
      have HB3 := hide_ hb3
      have HO3 := hide_ hown3
      clear hb3 hown3 h1
      go_wp2_with (at_builtin; refine wpList_append_row _ rfl _ _ 27 rfl base u8_info Try.underlying27 _ lb (intB N) l2 HX.out.symm rfl (own_below HST2.out.own HB3.out) w3.heap.size A3 (intB N).length c3 rfl rfl (Sees.own HO3.out) ⟨by have := HLL.out.1; omega, by have := HLL.out.2; omega⟩ (by have := HB3.out.size; omega) ?_; intro A4 c4 w4 hst4; have HST4 := hide_ (HST2.out.trans (RowStep.fresh HB3.out hst4)); clear hst4)
      go_roundw
      case rel => exact ⟨k + 1, by omega, by go_num, hide_ (by rw [HL2.out]; exact HST4.out)⟩
      case measure => simp [intOf]; omega
    · obtain rfl : k = n := by omega
      have HK2 := hide_ (HR.out ▸ HK.out)
      clear HK
      obtain ⟨A3, c3, hA3⟩ := own_slice HK2.out.own
      subst hA3
      go_wp2
      go_ret
      exact ⟨_, _, rfl, HK2.out⟩
end Go.Proofs.Ytkjgplcfoihohaa
