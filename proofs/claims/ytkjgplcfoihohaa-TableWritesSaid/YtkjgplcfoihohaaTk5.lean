/-
  Contracts of table's taker: numbers; many parts of a kind.
-/
import Derived.Test.YtkjgplcfoihohaaMany
namespace Go.Proofs.Ytkjgplcfoihohaa
open Go.RowKit

def takerV (g : Nat) : Value := .agg #[.pointer (some ⟨g, 0, none⟩)]
def tokV (t : Int × Int) : Value := .agg #[.int .u8 t.1, .int .i64 t.2]
def SetM.bare (s : SetM) : SetM := ⟨s.var, ⟨none, 0, s.val.l⟩⟩
def EmM.bare (s : EmM) : EmM := ⟨s.tg, s.ac, ⟨none, 0, s.arg.l⟩⟩
def RuM.bare (r : RuM) : RuM := ⟨r.fr, r.ac, r.pa, r.tt, ⟨none, 0, r.gu.l⟩, ⟨none, 0, r.se.l.map SetM.bare⟩, ⟨none, 0, r.em.l.map EmM.bare⟩⟩

theorem set_info : (Try.prog.info? 77).map (fun i => (i.zero, i.size, i.bytes)) = some (some (.agg #[.int .i64 0, .slice none 0 0]), 2, 32) := by kernel_rfl
theorem em_info : (Try.prog.info? 79).map (fun i => (i.zero, i.size, i.bytes)) = some (some (.agg #[.int .u8 0, .int .i64 0, .slice none 0 0]), 3, 40) := by kernel_rfl
theorem toks_one1 (x : Int × Int) : ∀ u ∈ tokC x, u.oneCell' = true := by
  intro u hu
  simp only [tokC, List.mem_cons, List.not_mem_nil, or_false] at hu
  rcases hu with rfl | rfl <;> rfl
theorem set_one1 (x : SetM) : ∀ u ∈ x.cs, u.oneCell' = true := by
  intro u hu
  simp only [SetM.cs, List.mem_cons, List.not_mem_nil, or_false, Sl.v] at hu
  rcases hu with rfl | rfl <;> rfl
theorem em_one1 (x : EmM) : ∀ u ∈ x.cs, u.oneCell' = true := by
  intro u hu
  simp only [EmM.cs, List.mem_cons, List.not_mem_nil, or_false, Sl.v] at hu
  rcases hu with rfl | rfl | rfl <;> rfl
theorem ru_one1 (x : RuM) : ∀ u ∈ x.cs, u.oneCell' = true := by
  intro u hu
  simp only [RuM.cs, List.mem_cons, List.not_mem_nil, or_false, Sl.v] at hu
  rcases hu with rfl | rfl | rfl | rfl | rfl | rfl | rfl <;> rfl

set_option maxRecDepth 100000 in
theorem tOther5_any {g : Nat} {s : RS} {w : World} (h : Rdr w g s.1 s.2) (hs : RSok s) : Calls Try.prog 76 #[takerV g] w (LeavesS w g (.int .i64 (numS 1000 s).1) (numS 1000 s).2) := by
  have H := hide_ (h.made (.cells #[.pointer (some ⟨g, 0, none⟩)] 85))
  have HS := hide_ hs
  have hb := (numS_ok (most := 1000) hs).2
  have HC := hide_ (Num_st 1000 H.out hs)
  obtain ⟨n, hn⟩ : ∃ n, (numS 1000 s).1 = n := ⟨_, rfl⟩
  obtain ⟨s2, hs2⟩ : ∃ s2, (numS 1000 s).2 = s2 := ⟨_, rfl⟩
  rw [hn] at hb
  rw [hn, hs2] at HC ⊢
  unfold takerV
  clear h hs hn hs2
  go_enter Try.func76, Try.ntmps76
  go_wp2_with fail
  refine HC.out.mono ?_
  rintro e w1 ⟨rfl, hr1, hg1⟩
  go_wp2
  go_ret
  exact ⟨rfl, hr1, grown_made hg1⟩

set_option maxRecDepth 100000 in
theorem tSmall5_any {g : Nat} {s : RS} {w : World} (h : Rdr w g s.1 s.2) (hs : RSok s) : Calls Try.prog 150 #[takerV g] w (LeavesS w g (.int .u8 (numS 255 s).1) (numS 255 s).2) := by
  have H := hide_ (h.made (.cells #[.pointer (some ⟨g, 0, none⟩)] 85))
  have HS := hide_ hs
  have hb := (numS_ok (most := 255) hs).2
  have HC := hide_ (Num_st 255 H.out hs)
  obtain ⟨n, hn⟩ : ∃ n, (numS 255 s).1 = n := ⟨_, rfl⟩
  obtain ⟨s2, hs2⟩ : ∃ s2, (numS 255 s).2 = s2 := ⟨_, rfl⟩
  rw [hn] at hb
  rw [hn, hs2] at HC ⊢
  unfold takerV
  clear h hs hn hs2
  go_enter Try.func150, Try.ntmps150
  go_wp2_with fail
  refine HC.out.mono ?_
  rintro e w1 ⟨rfl, hr1, hg1⟩
  go_wp2
  go_ret
  exact ⟨rfl, hr1, grown_made hg1⟩

set_option maxRecDepth 100000 in
set_option maxHeartbeats 800000 in
theorem manyTok5_any {β : Type} {g : Nat} {s : RS} {w : World} (most : Nat) (hm : most ≤ 1000) (pp : Int × Int → β) (fn : Nat) (bound cap : Array Value) (fS : RS → β × RS) (h : Rdr w g s.1 s.2) (hs : RSok s) (hfS : ∀ s, RSok s → RSok (fS s).2)
    (he : ∀ args w, (callFunc fn args).run Try.prog w = .ok (.enter fn args) w)
    (hf : ∀ w1 s1, w.grownBy w1 (some g) → Rdr w1 g s1.1 s1.2 → RSok s1 → Calls Try.prog fn (bound ++ cap) w1 (PartR tokV pp (fun _ _ t => TokIn t) noFt w1 g (fS s1))) :
    Calls Try.prog 148 #[takerV g, .int .u64 most, .func (.func fn) bound cap] w (PartR Sl.v (fun x => x.l.map pp) toksOk (Sl.ft noFt) w g (manyS most fS s)) := by
  have H := hide_ (h.made (.cells #[.pointer (some ⟨g, 0, none⟩)] 85))
  have hgl : g < w.heap.size := h.glt
  have hb := (numS_ok (most := most) hs).2
  have HS1 := hide_ (numS_ok (most := most) hs).1
  have HC := hide_ (Num_st most H.out hs)
  have HF := hide_ hf
  have HFS := hide_ hfS
  have HR := hide_ (show manyS most fS s = iterS fS (numS most s).1 (numS most s).2 from rfl)
  obtain ⟨n, hn⟩ : ∃ n, (numS most s).1 = n := ⟨_, rfl⟩
  obtain ⟨s1, hs1⟩ : ∃ s1, (numS most s).2 = s1 := ⟨_, rfl⟩
  rw [hn] at hb
  rw [hs1] at HS1
  rw [hn, hs1] at HC HR
  rw [HR.out]
  unfold takerV
  have hnn : n ≤ 1000 := by omega
  clear h hs hn hs1 hf hfS HR
  go_enter Try.func148, Try.ntmps148
  go_wp2_with fail
  refine HC.out.mono ?_
  rintro e w1 ⟨rfl, hr1, hg1⟩
  have HR1 := hide_ hr1
  have HG1 := hide_ (grown_made hg1)
  clear hr1 hg1 HC
  go_wp2
  go_loopw [7, 12] (fun v i wr => ∃ (k : Nat) (xs : List (Int × Int)), k ≤ n ∧ i = .int .u64 k ∧ xs.length = k ∧ Hid (xs.map pp = (iterS fS k s1).1) ∧ Hid (Coll 127 2 tokC (fun _ _ t => TokIn t) noFt w.heap.size v xs wr) ∧ Hid (Rdr wr g (iterS fS k s1).2.1 (iterS fS k s1).2.2) ∧ Hid (w.grownBy wr (some g))) (fun _ i _ => n - (intOf i).toNat)
  case atStart => exact ⟨0, [], Nat.zero_le _, rfl, rfl, rfl, Coll.nil _, HR1.out, HG1.out⟩
  case round =>
    obtain ⟨k, xs, hk, rfl, hxs, HX, HCO, HRD, HG⟩ := hrel
    by_cases hlt : k < n
    · have HCALL := hide_ (HF.out _ _ HG.out HRD.out (iterS_ok HFS.out k s1 HS1.out))
      have hzw : w.heap.size ≤ wr.heap.size := HG.out.size
      go_wp2_with fail
      refine HCALL.out.mono ?_
      rintro e w2 ⟨x, rfl, hpx, hok, hli, hrd, hg2⟩
      have HX2 := hide_ (show (xs ++ [x]).map pp = (iterS fS (k + 1) s1).1 by rw [iterS_snoc, List.map_append, HX.out, ← hpx]; rfl)
      have HR2 := hide_ (show Rdr w2 g (iterS fS (k + 1) s1).2.1 (iterS fS (k + 1) s1).2.2 by rw [iterS_snoc]; exact hrd)
      have HG2 := hide_ (grown_join HG.out hg2)
      have HCO2 := hide_ (HCO.out.grown (local_plain TokIn) hg2 hgl)
      have HFAR := hide_ (show ∀ k, noFt x k → (w.heap.size ≤ k ∧ k < w2.heap.size) ∧ _ from part_far HCO.out hzw hli)
      have HOK := hide_ hok
      have HLEN := hide_ hxs
      have hz2 : w.heap.size ≤ w2.heap.size := HG2.out.size
      have hxl : xs.length ≤ 100000 := by omega
      clear hpx hok hli hrd hg2 HX HCO HRD HG HCALL hxs
      obtain ⟨x0, hx0⟩ : ∃ x0, x0 = x := ⟨_, rfl⟩
      have HX0 := hide_ hx0
      rw [← hx0] at HX2 HFAR HOK
      clear hx0
      obtain ⟨o, N⟩ := x
      simp only [tokV]
      go_wp2_with (at_builtin; refine wpList_append_coll w2 rfl _ _ 36 rfl _ _ tok_info rfl (by omega) (by omega) Try.underlying36 HCO2.out (local_plain TokIn) x0 HOK.out HFAR.out hz2 _ (by rw [HX0.out]; rfl) rfl (toks_one1 _) hxl rfl rfl ?_; intro A3 c3 w3 hco3 hg3; (have HCO3 := hide_ hco3); (have HG3 := hide_ (grown_also HG2.out hg3 (own_from HCO2.out))); (have HR3 := hide_ (HR2.out.other hg3 (fun k hk => by (have := own_from HCO2.out k hk); omega))); clear hco3 hg3)
      go_roundw
      case rel => exact ⟨k + 1, xs ++ [x0], by omega, by go_num, by simp [HLEN.out], HX2, HCO3, HR3, HG3⟩
      case measure => simp [intOf]; omega
    · obtain rfl : k = n := by omega
      obtain ⟨A, c, hA⟩ := HCO.out.val
      subst hA
      obtain ⟨hso, hsl⟩ := HCO.out.slice rfl
      have HSO := hide_ hso
      have HSL := hide_ hsl
      clear hso hsl
      go_wp2
      go_ret
      exact ⟨⟨A, c, xs⟩, rfl, HX.out, HSO.out, HSL.out, HRD.out, HG.out⟩

set_option maxRecDepth 100000 in
set_option maxHeartbeats 800000 in
theorem manySet5_any {β : Type} {g : Nat} {s : RS} {w : World} (most : Nat) (hm : most ≤ 1000) (pp : SetM → β) (fn : Nat) (bound cap : Array Value) (fS : RS → β × RS) (h : Rdr w g s.1 s.2) (hs : RSok s) (hfS : ∀ s, RSok s → RSok (fS s).2)
    (he : ∀ args w, (callFunc fn args).run Try.prog w = .ok (.enter fn args) w)
    (hf : ∀ w1 s1, w.grownBy w1 (some g) → Rdr w1 g s1.1 s1.2 → RSok s1 → Calls Try.prog fn (bound ++ cap) w1 (PartR SetM.v pp SetM.ok SetM.ft w1 g (fS s1))) :
    Calls Try.prog 114 #[takerV g, .int .u64 most, .func (.func fn) bound cap] w (PartR Sl.v (fun x => x.l.map pp) setsOk (Sl.ft SetM.ft) w g (manyS most fS s)) := by
  have H := hide_ (h.made (.cells #[.pointer (some ⟨g, 0, none⟩)] 85))
  have hgl : g < w.heap.size := h.glt
  have hb := (numS_ok (most := most) hs).2
  have HS1 := hide_ (numS_ok (most := most) hs).1
  have HC := hide_ (Num_st most H.out hs)
  have HF := hide_ hf
  have HFS := hide_ hfS
  have HR := hide_ (show manyS most fS s = iterS fS (numS most s).1 (numS most s).2 from rfl)
  obtain ⟨n, hn⟩ : ∃ n, (numS most s).1 = n := ⟨_, rfl⟩
  obtain ⟨s1, hs1⟩ : ∃ s1, (numS most s).2 = s1 := ⟨_, rfl⟩
  rw [hn] at hb
  rw [hs1] at HS1
  rw [hn, hs1] at HC HR
  rw [HR.out]
  unfold takerV
  have hnn : n ≤ 1000 := by omega
  clear h hs hn hs1 hf hfS HR
  go_enter Try.func114, Try.ntmps114
  go_wp2_with fail
  refine HC.out.mono ?_
  rintro e w1 ⟨rfl, hr1, hg1⟩
  have HR1 := hide_ hr1
  have HG1 := hide_ (grown_made hg1)
  clear hr1 hg1 HC
  go_wp2
  go_loopw [7, 12] (fun v i wr => ∃ (k : Nat) (xs : List (SetM)), k ≤ n ∧ i = .int .u64 k ∧ xs.length = k ∧ Hid (xs.map pp = (iterS fS k s1).1) ∧ Hid (Coll 77 2 SetM.cs SetM.ok SetM.ft w.heap.size v xs wr) ∧ Hid (Rdr wr g (iterS fS k s1).2.1 (iterS fS k s1).2.2) ∧ Hid (w.grownBy wr (some g))) (fun _ i _ => n - (intOf i).toNat)
  case atStart => exact ⟨0, [], Nat.zero_le _, rfl, rfl, rfl, Coll.nil _, HR1.out, HG1.out⟩
  case round =>
    obtain ⟨k, xs, hk, rfl, hxs, HX, HCO, HRD, HG⟩ := hrel
    by_cases hlt : k < n
    · have HCALL := hide_ (HF.out _ _ HG.out HRD.out (iterS_ok HFS.out k s1 HS1.out))
      have hzw : w.heap.size ≤ wr.heap.size := HG.out.size
      go_wp2_with fail
      refine HCALL.out.mono ?_
      rintro e w2 ⟨x, rfl, hpx, hok, hli, hrd, hg2⟩
      have HX2 := hide_ (show (xs ++ [x]).map pp = (iterS fS (k + 1) s1).1 by rw [iterS_snoc, List.map_append, HX.out, ← hpx]; rfl)
      have HR2 := hide_ (show Rdr w2 g (iterS fS (k + 1) s1).2.1 (iterS fS (k + 1) s1).2.2 by rw [iterS_snoc]; exact hrd)
      have HG2 := hide_ (grown_join HG.out hg2)
      have HCO2 := hide_ (HCO.out.grown (set_local) hg2 hgl)
      have HFAR := hide_ (show ∀ k, SetM.ft x k → (w.heap.size ≤ k ∧ k < w2.heap.size) ∧ _ from part_far HCO.out hzw hli)
      have HOK := hide_ hok
      have HLEN := hide_ hxs
      have hz2 : w.heap.size ≤ w2.heap.size := HG2.out.size
      have hxl : xs.length ≤ 100000 := by omega
      clear hpx hok hli hrd hg2 HX HCO HRD HG HCALL hxs
      obtain ⟨x0, hx0⟩ : ∃ x0, x0 = x := ⟨_, rfl⟩
      have HX0 := hide_ hx0
      rw [← hx0] at HX2 HFAR HOK
      clear hx0
      obtain ⟨vr, ⟨vA, vc, vl⟩⟩ := x
      simp only [SetM.v, Sl.v]
      go_wp2_with (at_builtin; refine wpList_append_coll w2 rfl _ _ 37 rfl _ _ set_info rfl (by omega) (by omega) Try.underlying37 HCO2.out (set_local) x0 HOK.out HFAR.out hz2 _ (by rw [HX0.out]; rfl) rfl (set_one1 _) hxl rfl rfl ?_; intro A3 c3 w3 hco3 hg3; (have HCO3 := hide_ hco3); (have HG3 := hide_ (grown_also HG2.out hg3 (own_from HCO2.out))); (have HR3 := hide_ (HR2.out.other hg3 (fun k hk => by (have := own_from HCO2.out k hk); omega))); clear hco3 hg3)
      go_roundw
      case rel => exact ⟨k + 1, xs ++ [x0], by omega, by go_num, by simp [HLEN.out], HX2, HCO3, HR3, HG3⟩
      case measure => simp [intOf]; omega
    · obtain rfl : k = n := by omega
      obtain ⟨A, c, hA⟩ := HCO.out.val
      subst hA
      obtain ⟨hso, hsl⟩ := HCO.out.slice rfl
      have HSO := hide_ hso
      have HSL := hide_ hsl
      clear hso hsl
      go_wp2
      go_ret
      exact ⟨⟨A, c, xs⟩, rfl, HX.out, HSO.out, HSL.out, HRD.out, HG.out⟩

set_option maxRecDepth 100000 in
set_option maxHeartbeats 800000 in
theorem manyEmit5_any {β : Type} {g : Nat} {s : RS} {w : World} (most : Nat) (hm : most ≤ 1000) (pp : EmM → β) (fn : Nat) (bound cap : Array Value) (fS : RS → β × RS) (h : Rdr w g s.1 s.2) (hs : RSok s) (hfS : ∀ s, RSok s → RSok (fS s).2)
    (he : ∀ args w, (callFunc fn args).run Try.prog w = .ok (.enter fn args) w)
    (hf : ∀ w1 s1, w.grownBy w1 (some g) → Rdr w1 g s1.1 s1.2 → RSok s1 → Calls Try.prog fn (bound ++ cap) w1 (PartR EmM.v pp EmM.ok EmM.ft w1 g (fS s1))) :
    Calls Try.prog 116 #[takerV g, .int .u64 most, .func (.func fn) bound cap] w (PartR Sl.v (fun x => x.l.map pp) emsOk (Sl.ft EmM.ft) w g (manyS most fS s)) := by
  have H := hide_ (h.made (.cells #[.pointer (some ⟨g, 0, none⟩)] 85))
  have hgl : g < w.heap.size := h.glt
  have hb := (numS_ok (most := most) hs).2
  have HS1 := hide_ (numS_ok (most := most) hs).1
  have HC := hide_ (Num_st most H.out hs)
  have HF := hide_ hf
  have HFS := hide_ hfS
  have HR := hide_ (show manyS most fS s = iterS fS (numS most s).1 (numS most s).2 from rfl)
  obtain ⟨n, hn⟩ : ∃ n, (numS most s).1 = n := ⟨_, rfl⟩
  obtain ⟨s1, hs1⟩ : ∃ s1, (numS most s).2 = s1 := ⟨_, rfl⟩
  rw [hn] at hb
  rw [hs1] at HS1
  rw [hn, hs1] at HC HR
  rw [HR.out]
  unfold takerV
  have hnn : n ≤ 1000 := by omega
  clear h hs hn hs1 hf hfS HR
  go_enter Try.func116, Try.ntmps116
  go_wp2_with fail
  refine HC.out.mono ?_
  rintro e w1 ⟨rfl, hr1, hg1⟩
  have HR1 := hide_ hr1
  have HG1 := hide_ (grown_made hg1)
  clear hr1 hg1 HC
  go_wp2
  go_loopw [7, 12] (fun v i wr => ∃ (k : Nat) (xs : List (EmM)), k ≤ n ∧ i = .int .u64 k ∧ xs.length = k ∧ Hid (xs.map pp = (iterS fS k s1).1) ∧ Hid (Coll 79 3 EmM.cs EmM.ok EmM.ft w.heap.size v xs wr) ∧ Hid (Rdr wr g (iterS fS k s1).2.1 (iterS fS k s1).2.2) ∧ Hid (w.grownBy wr (some g))) (fun _ i _ => n - (intOf i).toNat)
  case atStart => exact ⟨0, [], Nat.zero_le _, rfl, rfl, rfl, Coll.nil _, HR1.out, HG1.out⟩
  case round =>
    obtain ⟨k, xs, hk, rfl, hxs, HX, HCO, HRD, HG⟩ := hrel
    by_cases hlt : k < n
    · have HCALL := hide_ (HF.out _ _ HG.out HRD.out (iterS_ok HFS.out k s1 HS1.out))
      have hzw : w.heap.size ≤ wr.heap.size := HG.out.size
      go_wp2_with fail
      refine HCALL.out.mono ?_
      rintro e w2 ⟨x, rfl, hpx, hok, hli, hrd, hg2⟩
      have HX2 := hide_ (show (xs ++ [x]).map pp = (iterS fS (k + 1) s1).1 by rw [iterS_snoc, List.map_append, HX.out, ← hpx]; rfl)
      have HR2 := hide_ (show Rdr w2 g (iterS fS (k + 1) s1).2.1 (iterS fS (k + 1) s1).2.2 by rw [iterS_snoc]; exact hrd)
      have HG2 := hide_ (grown_join HG.out hg2)
      have HCO2 := hide_ (HCO.out.grown (em_local) hg2 hgl)
      have HFAR := hide_ (show ∀ k, EmM.ft x k → (w.heap.size ≤ k ∧ k < w2.heap.size) ∧ _ from part_far HCO.out hzw hli)
      have HOK := hide_ hok
      have HLEN := hide_ hxs
      have hz2 : w.heap.size ≤ w2.heap.size := HG2.out.size
      have hxl : xs.length ≤ 100000 := by omega
      clear hpx hok hli hrd hg2 HX HCO HRD HG HCALL hxs
      obtain ⟨x0, hx0⟩ : ∃ x0, x0 = x := ⟨_, rfl⟩
      have HX0 := hide_ hx0
      rw [← hx0] at HX2 HFAR HOK
      clear hx0
      obtain ⟨tg, ac, ⟨vA, vc, vl⟩⟩ := x
      simp only [EmM.v, Sl.v]
      go_wp2_with (at_builtin; refine wpList_append_coll w2 rfl _ _ 38 rfl _ _ em_info rfl (by omega) (by omega) Try.underlying38 HCO2.out (em_local) x0 HOK.out HFAR.out hz2 _ (by rw [HX0.out]; rfl) rfl (em_one1 _) hxl rfl rfl ?_; intro A3 c3 w3 hco3 hg3; (have HCO3 := hide_ hco3); (have HG3 := hide_ (grown_also HG2.out hg3 (own_from HCO2.out))); (have HR3 := hide_ (HR2.out.other hg3 (fun k hk => by (have := own_from HCO2.out k hk); omega))); clear hco3 hg3)
      go_roundw
      case rel => exact ⟨k + 1, xs ++ [x0], by omega, by go_num, by simp [HLEN.out], HX2, HCO3, HR3, HG3⟩
      case measure => simp [intOf]; omega
    · obtain rfl : k = n := by omega
      obtain ⟨A, c, hA⟩ := HCO.out.val
      subst hA
      obtain ⟨hso, hsl⟩ := HCO.out.slice rfl
      have HSO := hide_ hso
      have HSL := hide_ hsl
      clear hso hsl
      go_wp2
      go_ret
      exact ⟨⟨A, c, xs⟩, rfl, HX.out, HSO.out, HSL.out, HRD.out, HG.out⟩

set_option maxRecDepth 100000 in
set_option maxHeartbeats 800000 in
theorem manyRule5_any {β : Type} {g : Nat} {s : RS} {w : World} (most : Nat) (hm : most ≤ 1000) (pp : RuM → β) (fn : Nat) (bound cap : Array Value) (fS : RS → β × RS) (h : Rdr w g s.1 s.2) (hs : RSok s) (hfS : ∀ s, RSok s → RSok (fS s).2)
    (he : ∀ args w, (callFunc fn args).run Try.prog w = .ok (.enter fn args) w)
    (hf : ∀ w1 s1, w.grownBy w1 (some g) → Rdr w1 g s1.1 s1.2 → RSok s1 → Calls Try.prog fn (bound ++ cap) w1 (PartR RuM.v pp RuM.ok RuM.ft w1 g (fS s1))) :
    Calls Try.prog 77 #[takerV g, .int .u64 most, .func (.func fn) bound cap] w (PartR Sl.v (fun x => x.l.map pp) rusOk (Sl.ft RuM.ft) w g (manyS most fS s)) := by
  have H := hide_ (h.made (.cells #[.pointer (some ⟨g, 0, none⟩)] 85))
  have hgl : g < w.heap.size := h.glt
  have hb := (numS_ok (most := most) hs).2
  have HS1 := hide_ (numS_ok (most := most) hs).1
  have HC := hide_ (Num_st most H.out hs)
  have HF := hide_ hf
  have HFS := hide_ hfS
  have HR := hide_ (show manyS most fS s = iterS fS (numS most s).1 (numS most s).2 from rfl)
  obtain ⟨n, hn⟩ : ∃ n, (numS most s).1 = n := ⟨_, rfl⟩
  obtain ⟨s1, hs1⟩ : ∃ s1, (numS most s).2 = s1 := ⟨_, rfl⟩
  rw [hn] at hb
  rw [hs1] at HS1
  rw [hn, hs1] at HC HR
  rw [HR.out]
  unfold takerV
  have hnn : n ≤ 1000 := by omega
  clear h hs hn hs1 hf hfS HR
  go_enter Try.func77, Try.ntmps77
  go_wp2_with fail
  refine HC.out.mono ?_
  rintro e w1 ⟨rfl, hr1, hg1⟩
  have HR1 := hide_ hr1
  have HG1 := hide_ (grown_made hg1)
  clear hr1 hg1 HC
  go_wp2
  go_loopw [7, 12] (fun v i wr => ∃ (k : Nat) (xs : List (RuM)), k ≤ n ∧ i = .int .u64 k ∧ xs.length = k ∧ Hid (xs.map pp = (iterS fS k s1).1) ∧ Hid (Coll 40 7 RuM.cs RuM.ok RuM.ft w.heap.size v xs wr) ∧ Hid (Rdr wr g (iterS fS k s1).2.1 (iterS fS k s1).2.2) ∧ Hid (w.grownBy wr (some g))) (fun _ i _ => n - (intOf i).toNat)
  case atStart => exact ⟨0, [], Nat.zero_le _, rfl, rfl, rfl, Coll.nil _, HR1.out, HG1.out⟩
  case round =>
    obtain ⟨k, xs, hk, rfl, hxs, HX, HCO, HRD, HG⟩ := hrel
    by_cases hlt : k < n
    · have HCALL := hide_ (HF.out _ _ HG.out HRD.out (iterS_ok HFS.out k s1 HS1.out))
      have hzw : w.heap.size ≤ wr.heap.size := HG.out.size
      go_wp2_with fail
      refine HCALL.out.mono ?_
      rintro e w2 ⟨x, rfl, hpx, hok, hli, hrd, hg2⟩
      have HX2 := hide_ (show (xs ++ [x]).map pp = (iterS fS (k + 1) s1).1 by rw [iterS_snoc, List.map_append, HX.out, ← hpx]; rfl)
      have HR2 := hide_ (show Rdr w2 g (iterS fS (k + 1) s1).2.1 (iterS fS (k + 1) s1).2.2 by rw [iterS_snoc]; exact hrd)
      have HG2 := hide_ (grown_join HG.out hg2)
      have HCO2 := hide_ (HCO.out.grown (ru_local) hg2 hgl)
      have HFAR := hide_ (show ∀ k, RuM.ft x k → (w.heap.size ≤ k ∧ k < w2.heap.size) ∧ _ from part_far HCO.out hzw hli)
      have HOK := hide_ hok
      have HLEN := hide_ hxs
      have hz2 : w.heap.size ≤ w2.heap.size := HG2.out.size
      have hxl : xs.length ≤ 100000 := by omega
      clear hpx hok hli hrd hg2 HX HCO HRD HG HCALL hxs
      obtain ⟨x0, hx0⟩ : ∃ x0, x0 = x := ⟨_, rfl⟩
      have HX0 := hide_ hx0
      rw [← hx0] at HX2 HFAR HOK
      clear hx0
      obtain ⟨fr, xc, xp, tt, ⟨gA, gc, gl⟩, ⟨sA, sc, sl⟩, ⟨eA, ec, el⟩⟩ := x
      simp only [RuM.v, Sl.v]
      go_wp2_with (at_builtin; refine wpList_append_coll w2 rfl _ _ 22 rfl _ _ rule_info rfl (by omega) (by omega) Try.underlying22 HCO2.out (ru_local) x0 HOK.out HFAR.out hz2 _ (by rw [HX0.out]; rfl) rfl (ru_one1 _) hxl rfl rfl ?_; intro A3 c3 w3 hco3 hg3; (have HCO3 := hide_ hco3); (have HG3 := hide_ (grown_also HG2.out hg3 (own_from HCO2.out))); (have HR3 := hide_ (HR2.out.other hg3 (fun k hk => by (have := own_from HCO2.out k hk); omega))); clear hco3 hg3)
      go_roundw
      case rel => exact ⟨k + 1, xs ++ [x0], by omega, by go_num, by simp [HLEN.out], HX2, HCO3, HR3, HG3⟩
      case measure => simp [intOf]; omega
    · obtain rfl : k = n := by omega
      obtain ⟨A, c, hA⟩ := HCO.out.val
      subst hA
      obtain ⟨hso, hsl⟩ := HCO.out.slice rfl
      have HSO := hide_ hso
      have HSL := hide_ hsl
      clear hso hsl
      go_wp2
      go_ret
      exact ⟨⟨A, c, xs⟩, rfl, HX.out, HSO.out, HSL.out, HRD.out, HG.out⟩

end Go.Proofs.Ytkjgplcfoihohaa
