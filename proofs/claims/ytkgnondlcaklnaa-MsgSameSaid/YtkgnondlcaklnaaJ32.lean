/-
  Texts of this claim put together: Tk6.
-/
import Derived.Test.YtkgnondlcaklnaaJ26
import Derived.Test.YtkgnondlcaklnaaJ31
/-
  Contracts of reg's taker: numbers; many parts of a kind.
-/
namespace Go.Proofs.Ytkgnondlcaklnaa
open Go.RowKit

def intV (x : Int) : Value := .int .i64 x
theorem done_info : (Try.prog.info? 48).map (fun i => (i.zero, i.size, i.bytes)) = some (some (.agg #[.int .u8 0, .int .u64 0, .int .i64 0, .int .u64 0, .int .i64 0, .slice none 0 0]), 6, 64) := by kernel_rfl
theorem mark_info : (Try.prog.info? 73).map (fun i => (i.zero, i.size, i.bytes)) = some (some (.agg #[.int .u8 0, .int .u64 0, .int .u64 0]), 3, 24) := by kernel_rfl
theorem int_one1 (x : Int) : ∀ u ∈ intC x, u.oneCell' = true := by
  intro u hu
  simp only [intC, List.mem_cons, List.not_mem_nil, or_false] at hu
  rcases hu with rfl
  rfl
theorem cel_one1 (x : CelM) : ∀ u ∈ celC x, u.oneCell' = true := by
  intro u hu
  simp only [celC, List.mem_cons, List.not_mem_nil, or_false] at hu
  rcases hu with rfl | rfl | rfl | rfl <;> rfl
theorem mrk_one1 (x : MrkM) : ∀ u ∈ mrkC x, u.oneCell' = true := by
  intro u hu
  simp only [mrkC, List.mem_cons, List.not_mem_nil, or_false] at hu
  rcases hu with rfl | rfl | rfl <;> rfl
theorem done_one1 (x : DoneM) : ∀ u ∈ x.cs, u.oneCell' = true := by
  intro u hu
  simp only [DoneM.cs, List.mem_cons, List.not_mem_nil, or_false, Sl.v] at hu
  rcases hu with rfl | rfl | rfl | rfl | rfl | rfl <;> rfl

set_option maxRecDepth 100000 in
theorem tOther6_any {g : Nat} {s : RS} {w : World} (h : Rdr w g s.1 s.2) (hs : RSok s) : Calls Try.prog 69 #[takerV g] w (LeavesS w g (.int .i64 (numS 1000 s).1) (numS 1000 s).2) := by
  have H := hide_ (h.made (.cells #[.pointer (some ⟨g, 0, none⟩)] 95))
  have HS := hide_ hs
  have hb := (numS_ok (most := 1000) hs).2
  have HC := hide_ (Num_st 1000 H.out hs)
  obtain ⟨n, hn⟩ : ∃ n, (numS 1000 s).1 = n := ⟨_, rfl⟩
  obtain ⟨s2, hs2⟩ : ∃ s2, (numS 1000 s).2 = s2 := ⟨_, rfl⟩
  rw [hn] at hb
  rw [hn, hs2] at HC ⊢
  unfold takerV
  clear h hs hn hs2
  go_enter Try.func69, Try.ntmps69
  go_wp2_with fail
  refine HC.out.mono ?_
  rintro e w1 ⟨rfl, hr1, hg1⟩
  go_wp2
  go_ret
  exact ⟨rfl, hr1, grown_made hg1⟩

set_option maxRecDepth 100000 in
theorem tSmall6_any {g : Nat} {s : RS} {w : World} (h : Rdr w g s.1 s.2) (hs : RSok s) : Calls Try.prog 67 #[takerV g] w (LeavesS w g (.int .u8 (numS 255 s).1) (numS 255 s).2) := by
  have H := hide_ (h.made (.cells #[.pointer (some ⟨g, 0, none⟩)] 95))
  have HS := hide_ hs
  have hb := (numS_ok (most := 255) hs).2
  have HC := hide_ (Num_st 255 H.out hs)
  obtain ⟨n, hn⟩ : ∃ n, (numS 255 s).1 = n := ⟨_, rfl⟩
  obtain ⟨s2, hs2⟩ : ∃ s2, (numS 255 s).2 = s2 := ⟨_, rfl⟩
  rw [hn] at hb
  rw [hn, hs2] at HC ⊢
  unfold takerV
  clear h hs hn hs2
  go_enter Try.func67, Try.ntmps67
  go_wp2_with fail
  refine HC.out.mono ?_
  rintro e w1 ⟨rfl, hr1, hg1⟩
  go_wp2
  go_ret
  exact ⟨rfl, hr1, grown_made hg1⟩

set_option maxRecDepth 100000 in
theorem tNumber06_any {g : Nat} {s : RS} {w : World} (h : Rdr w g s.1 s.2) (hs : RSok s) : Calls Try.prog 68 #[takerV g] w (LeavesS w g (.int .u64 (numS 18446744073709551615 s).1) (numS 18446744073709551615 s).2) := by
  have H := hide_ (h.made (.cells #[.pointer (some ⟨g, 0, none⟩)] 95))
  have HS := hide_ hs
  have hb := (numS_ok (most := 18446744073709551615) hs).2
  have HC := hide_ (Num_st 18446744073709551615 H.out hs)
  obtain ⟨n, hn⟩ : ∃ n, (numS 18446744073709551615 s).1 = n := ⟨_, rfl⟩
  obtain ⟨s2, hs2⟩ : ∃ s2, (numS 18446744073709551615 s).2 = s2 := ⟨_, rfl⟩
  rw [hn] at hb
  rw [hn, hs2] at HC ⊢
  unfold takerV
  clear h hs hn hs2
  go_enter Try.func68, Try.ntmps68
  go_wp2_with fail
  refine HC.out.mono ?_
  rintro e w1 ⟨rfl, hr1, hg1⟩
  go_wp2
  go_ret
  exact ⟨rfl, hr1, grown_made hg1⟩

/-- a number without a limit -/
def numBig (s : RS) : Nat × RS := numS 18446744073709551615 s
theorem numBig_ok {s : RS} (h : RSok s) : RSok (numBig s).2 ∧ U64 ((numBig s).1 : Int) := ⟨(numS_ok h).1, by
  have h1 := (numS_ok (most := 18446744073709551615) h).2
  unfold U64 numBig
  omega⟩
theorem tNumber6_any {g : Nat} {s : RS} {w : World} (h : Rdr w g s.1 s.2) (hs : RSok s) : Calls Try.prog 68 #[takerV g] w (LeavesS w g (.int .u64 (numBig s).1) (numBig s).2) := tNumber06_any h hs

set_option maxRecDepth 100000 in
set_option maxHeartbeats 800000 in
theorem manyInt6_any {β : Type} {g : Nat} {s : RS} {w : World} (pp : Int → β) (fn : Nat) (bound cap : Array Value) (fS : RS → β × RS) (h : Rdr w g s.1 s.2) (hs : RSok s) (hfS : ∀ s, RSok s → RSok (fS s).2)
    (he : ∀ args w, (callFunc fn args).run Try.prog w = .ok (.enter fn args) w)
    (hf : ∀ w1 s1, w.grownBy w1 (some g) → Rdr w1 g s1.1 s1.2 → RSok s1 → Calls Try.prog fn (bound ++ cap) w1 (PartR intV pp (fun _ _ x => I64 x) noFt w1 g (fS s1))) :
    Calls Try.prog 70 #[takerV g, .func (.func fn) bound cap] w (PartR Sl.v (fun x => x.l.map pp) intsOk (Sl.ft noFt) w g (manyS 1000 fS s)) := by
  have H := hide_ (h.made (.cells #[.pointer (some ⟨g, 0, none⟩)] 95))
  have hgl : g < w.heap.size := h.glt
  have hb := (numS_ok (most := 1000) hs).2
  have HS1 := hide_ (numS_ok (most := 1000) hs).1
  have HC := hide_ (tOther6_any H.out hs)
  have HF := hide_ hf
  have HFS := hide_ hfS
  have HR := hide_ (show manyS 1000 fS s = iterS fS (numS 1000 s).1 (numS 1000 s).2 from rfl)
  obtain ⟨n, hn⟩ : ∃ n, (numS 1000 s).1 = n := ⟨_, rfl⟩
  obtain ⟨s1, hs1⟩ : ∃ s1, (numS 1000 s).2 = s1 := ⟨_, rfl⟩
  rw [hn] at hb
  rw [hs1] at HS1
  rw [hn, hs1] at HC HR
  rw [HR.out]
  unfold takerV
  have hnn : n ≤ 1000 := by omega
  clear h hs hn hs1 hf hfS HR
  go_enter Try.func70, Try.ntmps70
  go_wp2_with fail
  refine HC.out.mono ?_
  rintro e w1 ⟨rfl, hr1, hg1⟩
  have HR1 := hide_ hr1
  have HG1 := hide_ (grown_made hg1)
  clear hr1 hg1 HC
  go_wp2
  go_loopw [5, 8] (fun v i wr => ∃ (k : Nat) (xs : List (Int)), k ≤ n ∧ i = .int .i64 k ∧ xs.length = k ∧ Hid (xs.map pp = (iterS fS k s1).1) ∧ Hid (Coll 2 1 intC (fun _ _ x => I64 x) noFt w.heap.size v xs wr) ∧ Hid (Rdr wr g (iterS fS k s1).2.1 (iterS fS k s1).2.2) ∧ Hid (w.grownBy wr (some g))) (fun _ i _ => n - (intOf i).toNat)
  case atStart => exact ⟨0, [], Nat.zero_le _, rfl, rfl, rfl, Coll.nil _, HR1.out, HG1.out⟩
  case round =>
    obtain ⟨k, xs, hk, rfl, hxs, HX, HCO, HRD, HG⟩ := hrel
    by_cases hlt : k < n
    · have HCALL := hide_ (HF.out _ _ HG.out HRD.out (iterS_ok HFS.out k s1 HS1.out))
      have hzw : w.heap.size ≤ wr.heap.size := HG.out.size
      go_wp2_with fail
      refine HCALL.out.mono ?_
      rintro e w2 ⟨x, rfl, hpx, hok, hli, hrd, hg2⟩
      have HX2 := hide_ (show (xs ++ [x]).map pp = (iterS fS (k + 1) s1).1 by rw [iterS_snoc, List.map_append, HX.out, ← hpx]; rfl)
      have HR2 := hide_ (show Rdr w2 g (iterS fS (k + 1) s1).2.1 (iterS fS (k + 1) s1).2.2 by rw [iterS_snoc]; exact hrd)
      have HG2 := hide_ (grown_join HG.out hg2)
      have HCO2 := hide_ (HCO.out.grown (local_plain I64) hg2 hgl)
      have HFAR := hide_ (show ∀ k, noFt x k → (w.heap.size ≤ k ∧ k < w2.heap.size) ∧ _ from part_far HCO.out hzw hli)
      have HOK := hide_ hok
      have HLEN := hide_ hxs
      have hz2 : w.heap.size ≤ w2.heap.size := HG2.out.size
      have hxl : xs.length ≤ 100000 := by omega
      clear hpx hok hli hrd hg2 HX HCO HRD HG HCALL hxs
      obtain ⟨x0, hx0⟩ : ∃ x0, x0 = x := ⟨_, rfl⟩
      have HX0 := hide_ hx0
      rw [← hx0] at HX2 HFAR HOK
      clear hx0
      simp only [intV]
      go_wp2_with (at_builtin; refine wpList_append_coll w2 rfl _ _ 26 rfl _ _ i64_info rfl (by omega) (by omega) Try.underlying26 HCO2.out (local_plain I64) x0 HOK.out HFAR.out hz2 _ (by rw [HX0.out]; rfl) rfl (int_one1 _) hxl rfl rfl ?_; intro A3 c3 w3 hco3 hg3; (have HCO3 := hide_ hco3); (have HG3 := hide_ (grown_also HG2.out hg3 (own_from HCO2.out))); (have HR3 := hide_ (HR2.out.other hg3 (fun k hk => by (have := own_from HCO2.out k hk); omega))); clear hco3 hg3)
      go_roundw
      case rel => exact ⟨k + 1, xs ++ [x0], by omega, by go_num, by simp [HLEN.out], HX2, HCO3, HR3, HG3⟩
      case measure => simp [intOf]; omega
    · obtain rfl : k = n := by omega
      obtain ⟨A, c, hA⟩ := HCO.out.val
      subst hA
      obtain ⟨hso, hsl⟩ := HCO.out.slice rfl
      have HSO := hide_ hso
      have HSL := hide_ hsl
      clear hso hsl
      go_wp2
      go_ret
      exact ⟨⟨A, c, xs⟩, rfl, HX.out, HSO.out, HSL.out, HRD.out, HG.out⟩

set_option maxRecDepth 100000 in
set_option maxHeartbeats 800000 in
theorem manyDone6_any {β : Type} {g : Nat} {s : RS} {w : World} (pp : DoneM → β) (fn : Nat) (bound cap : Array Value) (fS : RS → β × RS) (h : Rdr w g s.1 s.2) (hs : RSok s) (hfS : ∀ s, RSok s → RSok (fS s).2)
    (he : ∀ args w, (callFunc fn args).run Try.prog w = .ok (.enter fn args) w)
    (hf : ∀ w1 s1, w.grownBy w1 (some g) → Rdr w1 g s1.1 s1.2 → RSok s1 → Calls Try.prog fn (bound ++ cap) w1 (PartR DoneM.v pp DoneM.ok DoneM.ft w1 g (fS s1))) :
    Calls Try.prog 72 #[takerV g, .func (.func fn) bound cap] w (PartR Sl.v (fun x => x.l.map pp) dnsOk (Sl.ft DoneM.ft) w g (manyS 1000 fS s)) := by
  have H := hide_ (h.made (.cells #[.pointer (some ⟨g, 0, none⟩)] 95))
  have hgl : g < w.heap.size := h.glt
  have hb := (numS_ok (most := 1000) hs).2
  have HS1 := hide_ (numS_ok (most := 1000) hs).1
  have HC := hide_ (tOther6_any H.out hs)
  have HF := hide_ hf
  have HFS := hide_ hfS
  have HR := hide_ (show manyS 1000 fS s = iterS fS (numS 1000 s).1 (numS 1000 s).2 from rfl)
  obtain ⟨n, hn⟩ : ∃ n, (numS 1000 s).1 = n := ⟨_, rfl⟩
  obtain ⟨s1, hs1⟩ : ∃ s1, (numS 1000 s).2 = s1 := ⟨_, rfl⟩
  rw [hn] at hb
  rw [hs1] at HS1
  rw [hn, hs1] at HC HR
  rw [HR.out]
  unfold takerV
  have hnn : n ≤ 1000 := by omega
  clear h hs hn hs1 hf hfS HR
  go_enter Try.func72, Try.ntmps72
  go_wp2_with fail
  refine HC.out.mono ?_
  rintro e w1 ⟨rfl, hr1, hg1⟩
  have HR1 := hide_ hr1
  have HG1 := hide_ (grown_made hg1)
  clear hr1 hg1 HC
  go_wp2
  go_loopw [5, 8] (fun v i wr => ∃ (k : Nat) (xs : List (DoneM)), k ≤ n ∧ i = .int .i64 k ∧ xs.length = k ∧ Hid (xs.map pp = (iterS fS k s1).1) ∧ Hid (Coll 48 6 DoneM.cs DoneM.ok DoneM.ft w.heap.size v xs wr) ∧ Hid (Rdr wr g (iterS fS k s1).2.1 (iterS fS k s1).2.2) ∧ Hid (w.grownBy wr (some g))) (fun _ i _ => n - (intOf i).toNat)
  case atStart => exact ⟨0, [], Nat.zero_le _, rfl, rfl, rfl, Coll.nil _, HR1.out, HG1.out⟩
  case round =>
    obtain ⟨k, xs, hk, rfl, hxs, HX, HCO, HRD, HG⟩ := hrel
    by_cases hlt : k < n
    · have HCALL := hide_ (HF.out _ _ HG.out HRD.out (iterS_ok HFS.out k s1 HS1.out))
      have hzw : w.heap.size ≤ wr.heap.size := HG.out.size
      go_wp2_with fail
      refine HCALL.out.mono ?_
      rintro e w2 ⟨x, rfl, hpx, hok, hli, hrd, hg2⟩
      have HX2 := hide_ (show (xs ++ [x]).map pp = (iterS fS (k + 1) s1).1 by rw [iterS_snoc, List.map_append, HX.out, ← hpx]; rfl)
      have HR2 := hide_ (show Rdr w2 g (iterS fS (k + 1) s1).2.1 (iterS fS (k + 1) s1).2.2 by rw [iterS_snoc]; exact hrd)
      have HG2 := hide_ (grown_join HG.out hg2)
      have HCO2 := hide_ (HCO.out.grown (done_local) hg2 hgl)
      have HFAR := hide_ (show ∀ k, DoneM.ft x k → (w.heap.size ≤ k ∧ k < w2.heap.size) ∧ _ from part_far HCO.out hzw hli)
      have HOK := hide_ hok
      have HLEN := hide_ hxs
      have hz2 : w.heap.size ≤ w2.heap.size := HG2.out.size
      have hxl : xs.length ≤ 100000 := by omega
      clear hpx hok hli hrd hg2 HX HCO HRD HG HCALL hxs
      obtain ⟨x0, hx0⟩ : ∃ x0, x0 = x := ⟨_, rfl⟩
      have HX0 := hide_ hx0
      rw [← hx0] at HX2 HFAR HOK
      clear hx0
      obtain ⟨cl, sq, er, inc, st, ⟨vA, vc, vl⟩⟩ := x
      simp only [DoneM.v, Sl.v]
      go_wp2_with (at_builtin; refine wpList_append_coll w2 rfl _ _ 27 rfl _ _ done_info rfl (by omega) (by omega) Try.underlying27 HCO2.out (done_local) x0 HOK.out HFAR.out hz2 _ (by rw [HX0.out]; rfl) rfl (done_one1 _) hxl rfl rfl ?_; intro A3 c3 w3 hco3 hg3; (have HCO3 := hide_ hco3); (have HG3 := hide_ (grown_also HG2.out hg3 (own_from HCO2.out))); (have HR3 := hide_ (HR2.out.other hg3 (fun k hk => by (have := own_from HCO2.out k hk); omega))); clear hco3 hg3)
      go_roundw
      case rel => exact ⟨k + 1, xs ++ [x0], by omega, by go_num, by simp [HLEN.out], HX2, HCO3, HR3, HG3⟩
      case measure => simp [intOf]; omega
    · obtain rfl : k = n := by omega
      obtain ⟨A, c, hA⟩ := HCO.out.val
      subst hA
      obtain ⟨hso, hsl⟩ := HCO.out.slice rfl
      have HSO := hide_ hso
      have HSL := hide_ hsl
      clear hso hsl
      go_wp2
      go_ret
      exact ⟨⟨A, c, xs⟩, rfl, HX.out, HSO.out, HSL.out, HRD.out, HG.out⟩

set_option maxRecDepth 100000 in
set_option maxHeartbeats 800000 in
theorem manyCell6_any {β : Type} {g : Nat} {s : RS} {w : World} (pp : CelM → β) (fn : Nat) (bound cap : Array Value) (fS : RS → β × RS) (h : Rdr w g s.1 s.2) (hs : RSok s) (hfS : ∀ s, RSok s → RSok (fS s).2)
    (he : ∀ args w, (callFunc fn args).run Try.prog w = .ok (.enter fn args) w)
    (hf : ∀ w1 s1, w.grownBy w1 (some g) → Rdr w1 g s1.1 s1.2 → RSok s1 → Calls Try.prog fn (bound ++ cap) w1 (PartR celV pp (fun _ _ c => celIn c) noFt w1 g (fS s1))) :
    Calls Try.prog 74 #[takerV g, .func (.func fn) bound cap] w (PartR Sl.v (fun x => x.l.map pp) celsOk (Sl.ft noFt) w g (manyS 1000 fS s)) := by
  have H := hide_ (h.made (.cells #[.pointer (some ⟨g, 0, none⟩)] 95))
  have hgl : g < w.heap.size := h.glt
  have hb := (numS_ok (most := 1000) hs).2
  have HS1 := hide_ (numS_ok (most := 1000) hs).1
  have HC := hide_ (tOther6_any H.out hs)
  have HF := hide_ hf
  have HFS := hide_ hfS
  have HR := hide_ (show manyS 1000 fS s = iterS fS (numS 1000 s).1 (numS 1000 s).2 from rfl)
  obtain ⟨n, hn⟩ : ∃ n, (numS 1000 s).1 = n := ⟨_, rfl⟩
  obtain ⟨s1, hs1⟩ : ∃ s1, (numS 1000 s).2 = s1 := ⟨_, rfl⟩
  rw [hn] at hb
  rw [hs1] at HS1
  rw [hn, hs1] at HC HR
  rw [HR.out]
  unfold takerV
  have hnn : n ≤ 1000 := by omega
  clear h hs hn hs1 hf hfS HR
  go_enter Try.func74, Try.ntmps74
  go_wp2_with fail
  refine HC.out.mono ?_
  rintro e w1 ⟨rfl, hr1, hg1⟩
  have HR1 := hide_ hr1
  have HG1 := hide_ (grown_made hg1)
  clear hr1 hg1 HC
  go_wp2
  go_loopw [5, 8] (fun v i wr => ∃ (k : Nat) (xs : List (CelM)), k ≤ n ∧ i = .int .i64 k ∧ xs.length = k ∧ Hid (xs.map pp = (iterS fS k s1).1) ∧ Hid (Coll 70 4 celC (fun _ _ c => celIn c) noFt w.heap.size v xs wr) ∧ Hid (Rdr wr g (iterS fS k s1).2.1 (iterS fS k s1).2.2) ∧ Hid (w.grownBy wr (some g))) (fun _ i _ => n - (intOf i).toNat)
  case atStart => exact ⟨0, [], Nat.zero_le _, rfl, rfl, rfl, Coll.nil _, HR1.out, HG1.out⟩
  case round =>
    obtain ⟨k, xs, hk, rfl, hxs, HX, HCO, HRD, HG⟩ := hrel
    by_cases hlt : k < n
    · have HCALL := hide_ (HF.out _ _ HG.out HRD.out (iterS_ok HFS.out k s1 HS1.out))
      have hzw : w.heap.size ≤ wr.heap.size := HG.out.size
      go_wp2_with fail
      refine HCALL.out.mono ?_
      rintro e w2 ⟨x, rfl, hpx, hok, hli, hrd, hg2⟩
      have HX2 := hide_ (show (xs ++ [x]).map pp = (iterS fS (k + 1) s1).1 by rw [iterS_snoc, List.map_append, HX.out, ← hpx]; rfl)
      have HR2 := hide_ (show Rdr w2 g (iterS fS (k + 1) s1).2.1 (iterS fS (k + 1) s1).2.2 by rw [iterS_snoc]; exact hrd)
      have HG2 := hide_ (grown_join HG.out hg2)
      have HCO2 := hide_ (HCO.out.grown (local_plain celIn) hg2 hgl)
      have HFAR := hide_ (show ∀ k, noFt x k → (w.heap.size ≤ k ∧ k < w2.heap.size) ∧ _ from part_far HCO.out hzw hli)
      have HOK := hide_ hok
      have HLEN := hide_ hxs
      have hz2 : w.heap.size ≤ w2.heap.size := HG2.out.size
      have hxl : xs.length ≤ 100000 := by omega
      clear hpx hok hli hrd hg2 HX HCO HRD HG HCALL hxs
      obtain ⟨x0, hx0⟩ : ∃ x0, x0 = x := ⟨_, rfl⟩
      have HX0 := hide_ hx0
      rw [← hx0] at HX2 HFAR HOK
      clear hx0
      obtain ⟨a, b, c, d⟩ := x
      simp only [celV]
      go_wp2_with (at_builtin; refine wpList_append_coll w2 rfl _ _ 28 rfl _ _ cell_info rfl (by omega) (by omega) Try.underlying28 HCO2.out (local_plain celIn) x0 HOK.out HFAR.out hz2 _ (by rw [HX0.out]; rfl) rfl (cel_one1 _) hxl rfl rfl ?_; intro A3 c3 w3 hco3 hg3; (have HCO3 := hide_ hco3); (have HG3 := hide_ (grown_also HG2.out hg3 (own_from HCO2.out))); (have HR3 := hide_ (HR2.out.other hg3 (fun k hk => by (have := own_from HCO2.out k hk); omega))); clear hco3 hg3)
      go_roundw
      case rel => exact ⟨k + 1, xs ++ [x0], by omega, by go_num, by simp [HLEN.out], HX2, HCO3, HR3, HG3⟩
      case measure => simp [intOf]; omega
    · obtain rfl : k = n := by omega
      obtain ⟨A, c, hA⟩ := HCO.out.val
      subst hA
      obtain ⟨hso, hsl⟩ := HCO.out.slice rfl
      have HSO := hide_ hso
      have HSL := hide_ hsl
      clear hso hsl
      go_wp2
      go_ret
      exact ⟨⟨A, c, xs⟩, rfl, HX.out, HSO.out, HSL.out, HRD.out, HG.out⟩

set_option maxRecDepth 100000 in
set_option maxHeartbeats 800000 in
theorem manyMark6_any {β : Type} {g : Nat} {s : RS} {w : World} (pp : MrkM → β) (fn : Nat) (bound cap : Array Value) (fS : RS → β × RS) (h : Rdr w g s.1 s.2) (hs : RSok s) (hfS : ∀ s, RSok s → RSok (fS s).2)
    (he : ∀ args w, (callFunc fn args).run Try.prog w = .ok (.enter fn args) w)
    (hf : ∀ w1 s1, w.grownBy w1 (some g) → Rdr w1 g s1.1 s1.2 → RSok s1 → Calls Try.prog fn (bound ++ cap) w1 (PartR mrkV pp (fun _ _ c => mrkIn c) noFt w1 g (fS s1))) :
    Calls Try.prog 76 #[takerV g, .func (.func fn) bound cap] w (PartR Sl.v (fun x => x.l.map pp) mrksOk (Sl.ft noFt) w g (manyS 1000 fS s)) := by
  have H := hide_ (h.made (.cells #[.pointer (some ⟨g, 0, none⟩)] 95))
  have hgl : g < w.heap.size := h.glt
  have hb := (numS_ok (most := 1000) hs).2
  have HS1 := hide_ (numS_ok (most := 1000) hs).1
  have HC := hide_ (tOther6_any H.out hs)
  have HF := hide_ hf
  have HFS := hide_ hfS
  have HR := hide_ (show manyS 1000 fS s = iterS fS (numS 1000 s).1 (numS 1000 s).2 from rfl)
  obtain ⟨n, hn⟩ : ∃ n, (numS 1000 s).1 = n := ⟨_, rfl⟩
  obtain ⟨s1, hs1⟩ : ∃ s1, (numS 1000 s).2 = s1 := ⟨_, rfl⟩
  rw [hn] at hb
  rw [hs1] at HS1
  rw [hn, hs1] at HC HR
  rw [HR.out]
  unfold takerV
  have hnn : n ≤ 1000 := by omega
  clear h hs hn hs1 hf hfS HR
  go_enter Try.func76, Try.ntmps76
  go_wp2_with fail
  refine HC.out.mono ?_
  rintro e w1 ⟨rfl, hr1, hg1⟩
  have HR1 := hide_ hr1
  have HG1 := hide_ (grown_made hg1)
  clear hr1 hg1 HC
  go_wp2
  go_loopw [5, 8] (fun v i wr => ∃ (k : Nat) (xs : List (MrkM)), k ≤ n ∧ i = .int .i64 k ∧ xs.length = k ∧ Hid (xs.map pp = (iterS fS k s1).1) ∧ Hid (Coll 73 3 mrkC (fun _ _ c => mrkIn c) noFt w.heap.size v xs wr) ∧ Hid (Rdr wr g (iterS fS k s1).2.1 (iterS fS k s1).2.2) ∧ Hid (w.grownBy wr (some g))) (fun _ i _ => n - (intOf i).toNat)
  case atStart => exact ⟨0, [], Nat.zero_le _, rfl, rfl, rfl, Coll.nil _, HR1.out, HG1.out⟩
  case round =>
    obtain ⟨k, xs, hk, rfl, hxs, HX, HCO, HRD, HG⟩ := hrel
    by_cases hlt : k < n
    · have HCALL := hide_ (HF.out _ _ HG.out HRD.out (iterS_ok HFS.out k s1 HS1.out))
      have hzw : w.heap.size ≤ wr.heap.size := HG.out.size
      go_wp2_with fail
      refine HCALL.out.mono ?_
      rintro e w2 ⟨x, rfl, hpx, hok, hli, hrd, hg2⟩
      have HX2 := hide_ (show (xs ++ [x]).map pp = (iterS fS (k + 1) s1).1 by rw [iterS_snoc, List.map_append, HX.out, ← hpx]; rfl)
      have HR2 := hide_ (show Rdr w2 g (iterS fS (k + 1) s1).2.1 (iterS fS (k + 1) s1).2.2 by rw [iterS_snoc]; exact hrd)
      have HG2 := hide_ (grown_join HG.out hg2)
      have HCO2 := hide_ (HCO.out.grown (local_plain mrkIn) hg2 hgl)
      have HFAR := hide_ (show ∀ k, noFt x k → (w.heap.size ≤ k ∧ k < w2.heap.size) ∧ _ from part_far HCO.out hzw hli)
      have HOK := hide_ hok
      have HLEN := hide_ hxs
      have hz2 : w.heap.size ≤ w2.heap.size := HG2.out.size
      have hxl : xs.length ≤ 100000 := by omega
      clear hpx hok hli hrd hg2 HX HCO HRD HG HCALL hxs
      obtain ⟨x0, hx0⟩ : ∃ x0, x0 = x := ⟨_, rfl⟩
      have HX0 := hide_ hx0
      rw [← hx0] at HX2 HFAR HOK
      clear hx0
      obtain ⟨a, b, c⟩ := x
      simp only [mrkV]
      go_wp2_with (at_builtin; refine wpList_append_coll w2 rfl _ _ 29 rfl _ _ mark_info rfl (by omega) (by omega) Try.underlying29 HCO2.out (local_plain mrkIn) x0 HOK.out HFAR.out hz2 _ (by rw [HX0.out]; rfl) rfl (mrk_one1 _) hxl rfl rfl ?_; intro A3 c3 w3 hco3 hg3; (have HCO3 := hide_ hco3); (have HG3 := hide_ (grown_also HG2.out hg3 (own_from HCO2.out))); (have HR3 := hide_ (HR2.out.other hg3 (fun k hk => by (have := own_from HCO2.out k hk); omega))); clear hco3 hg3)
      go_roundw
      case rel => exact ⟨k + 1, xs ++ [x0], by omega, by go_num, by simp [HLEN.out], HX2, HCO3, HR3, HG3⟩
      case measure => simp [intOf]; omega
    · obtain rfl : k = n := by omega
      obtain ⟨A, c, hA⟩ := HCO.out.val
      subst hA
      obtain ⟨hso, hsl⟩ := HCO.out.slice rfl
      have HSO := hide_ hso
      have HSL := hide_ hsl
      clear hso hsl
      go_wp2
      go_ret
      exact ⟨⟨A, c, xs⟩, rfl, HX.out, HSO.out, HSL.out, HRD.out, HG.out⟩

end Go.Proofs.Ytkgnondlcaklnaa
