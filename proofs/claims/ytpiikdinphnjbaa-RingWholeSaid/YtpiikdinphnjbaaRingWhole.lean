/-
  scrutineerlaw09.RingWhole answers true for every input and leaves its input as it was; no condition.
-/
import Derived.Test.YtpiikdinphnjbaaRing9
import Derived.Test.YtpiikdinphnjbaaHeld
import Derived.Test.YtpiikdinphnjbaaLaw
namespace Go.Proofs.Ytpiikdinphnjbaa.ringWhole
open Go.ChangeShapes Go.WideShapes Go.ChangeAt Go.RowKit

theorem walk_long (A : Option Addr) (n c : Nat) (k m : Int) (w : World) (h : 80 < n) (hm : n ≤ maxLen) :
    Calls Try.prog 5 #[.slice A n c, .int .u8 k, .int .u8 m] w fun e w' => e = .returned (.bool true) ∧ Below w.heap.size w w' := by
  unfold maxLen at hm
  go_enter Try.func5, Try.ntmps5
  go_wp2_with fail
  refine (awake09_any _).mono ?_
  rintro e w1 ⟨rfl, hb1⟩
  go_wp2
  go_ret
  exact ⟨rfl, hb1⟩

/-- numbers by node, as cells -/
def hadC (f : UInt8 → Int) : Array Value := ((List.range 256).map fun i => Value.int .i64 (f (UInt8.ofNat i))).toArray
theorem hadC_size (f : UInt8 → Int) : (hadC f).size = 256 := by simp [hadC]
theorem hadC_get (f : UInt8 → Int) (x : UInt8) : (hadC f)[x.toNat]? = some (.int .i64 (f x)) := by
  have := x.toNat_lt
  simp [hadC, this]
theorem hadC_set (f : UInt8 → Int) (x : UInt8) (v : Int) : (hadC f).setIfInBounds x.toNat (.int .i64 v) = hadC (fun y => if y = x then v else f y) := by
  apply Array.ext_getElem?
  intro j
  have hx := x.toNat_lt
  rw [Array.getElem?_setIfInBounds, hadC_size]
  by_cases hj : j < 256
  · simp only [hadC, List.getElem?_toArray, List.getElem?_map, List.getElem?_range hj, Option.map_some]
    by_cases hjx : x.toNat = j
    · subst hjx
      simp [hx]
    · rw [if_neg hjx, if_neg]
      rintro rfl
      apply hjx
      rw [UInt8.toNat_ofNat']
      omega
  · rw [Array.getElem?_eq_none (by rw [hadC_size]; omega), Array.getElem?_eq_none (by rw [hadC_size]; omega)]
    split
    · simp; omega
    · rfl
theorem had_zero : Try.zeroCells32 = hadC (fun _ => 0) := by kernel_rfl
theorem hadC_one (f : UInt8 → Int) : ∀ u ∈ (hadC f).toList, u.oneCell' = true := by
  intro u hu
  simp only [hadC, List.mem_map] at hu
  obtain ⟨i, _, rfl⟩ := hu
  rfl
theorem had_store (g : Nat) (w : World) (hg : w.heap.size = g) :
    ∃ W', Sem.run Try.prog (storeCells ⟨g, 0, none⟩ Try.zeroCells32.toList) (w.alloc (.cells Try.zeroCells32 32)) = .ok () W' ∧
      BoxAt W' g (hadC (fun _ => 0)) 32 ∧ Below g w W' ∧ W'.heap.size = g + 1 := by
  subst hg
  rw [had_zero]
  have hb := heap_alloc_new w (.cells (hadC (fun _ => 0)) 32)
  have hl : (hadC (fun _ => 0)).toList.length = 256 := by rw [Array.length_toList, hadC_size]
  have h := run_storeCells_at Try.prog w.heap.size 0 32 (hadC (fun _ => 0)).toList 0 _ _ hb (by rw [hl, hadC_size]; omega) (hadC_one _)
  have e2 : ((hadC (fun _ => 0)).toList.take (0 + 0) ++ (hadC (fun _ => 0)).toList ++ (hadC (fun _ => 0)).toList.drop (0 + 0 + (hadC (fun _ => 0)).toList.length)).toArray = hadC (fun _ => 0) := by
    rw [List.drop_of_length_le (by omega)]
    simp
  rw [e2] at h
  refine ⟨_, h, setRow_heap _ w.heap.size _ _ _ _ hb, ?_, by simp⟩
  exact ((Below.refl w.heap.size w).alloc (Nat.le_refl _) _).grown ⟨rfl, rfl, rfl, by simp, fun k _ hk => setRow_other _ w.heap.size k _ (fun e => hk (by rw [e]))⟩ (by simp) (fun k hk => by injection hk with hk; omega)

/-- in the first loop -/
def had1 (s : List UInt8) (x : UInt8) : Int := if s.contains x then 1 else 0
theorem had1_set (l : List UInt8) (k : Nat) (hk : k < l.length) : (fun y => if y = l[k] then (1 : Int) else had1 (l.take k) y) = had1 (l.take (k + 1)) := by
  funext y
  unfold had1
  rw [contains_take y hk]
  by_cases h : y = l[k]
  · simp [h]
  · have h2 : (l[k] == y) = false := beq_eq_false_iff_ne.2 (fun e => h e.symm)
    simp [h, h2]
/-- in the second loop -/
def had2 (l s : List UInt8) (x : UInt8) : Int := if s.contains x then 2 else if l.contains x then 1 else 0
theorem had2_set (l s : List UInt8) (k : Nat) (hk : k < s.length) : (fun y => if y = s[k] then (2 : Int) else had2 l (s.take k) y) = had2 l (s.take (k + 1)) := by
  funext y
  unfold had2
  rw [contains_take y hk]
  by_cases h : y = s[k]
  · simp [h]
  · have h2 : (s[k] == y) = false := beq_eq_false_iff_ne.2 (fun e => h e.symm)
    simp [h, h2]
theorem had2_at {l s : List UInt8} (hs : s.Nodup) (hl : ∀ x ∈ s, x ∈ l) (k : Nat) (hk : k < s.length) : had2 l (s.take k) s[k] = 1 := by
  unfold had2
  have h1 : (s.take k).contains s[k] = false := by
    rw [← Bool.not_eq_true, List.contains_iff_mem]
    intro h
    obtain ⟨j, hj, e⟩ := List.getElem_of_mem h
    rw [List.length_take] at hj
    rw [List.getElem_take] at e
    have := (List.getElem_inj hs).1 e
    omega
  rw [h1, List.contains_iff_mem.2 (hl _ (List.getElem_mem hk))]
  rfl

set_option maxRecDepth 100000 in
set_option maxHeartbeats 3200000 in
theorem walk_short (l : List UInt8) (key : UInt8) (many : Nat) (A : Option Addr) (n c : Nat) (w : World) (hn : l.length = n) (h1 : n ≤ 80) (hmy : many ≤ 255) (hs : Sees w w.heap.size A (bv l)) :
    Calls Try.prog 5 #[.slice A n c, .int .u8 (key.toNat : Int), .int .u8 (many : Int)] w fun e w' => e = .returned (.bool true) ∧ Below w.heap.size w w' := by
  have HN := hide_ hn
  have HSV := hide_ (fun (u : World) (hu : Below w.heap.size w u) => hs.below hu)
  have HBB := hide_ (fun (u : World) (hu : Below w.heap.size w u) => Build_any l w.heap.size A n c u hn (by omega) (hs.below hu) hu.size)
  have HRL := hide_ (show (ringM l).length ≤ 1000 by
    rw [ringM_len]
    have := nubs_len_le l
    omega)
  have HKE := hide_ (fun (u : World) (m : Int) (B : Nat) (R : Option Addr) (q rc : Nat) (hq : (ringM l).length = q) (hq2 : q ≤ 1000) (hR : Sees u B R (pv (ringM l))) (hB : B ≤ u.heap.size) => Keepers_any (ringM l) key m B R q rc u hq hq2 hR hB)
  have hperm : (allK (ringM l) (keyN key)).Perm (nubs l) := nub_perm (nodup_allK _ _) (nodup_nubs l) fun x => by rw [mem_allK, mem_ringM, mem_nubs]
  have hallen := hperm.length_eq
  have hnle := nubs_len_le l
  have hk300 : keepM (ringM l) (keyN key) 300 = allK (ringM l) (keyN key) := by
    rw [keepM_eq, List.take_of_length_le (by rw [hallen]; show _ ≤ 300; omega)]
  have hksome : keepM (ringM l) (keyN key) (many : Int) = (allK (ringM l) (keyN key)).take many := by rw [keepM_eq]; rfl
  have hnd := nodup_allK (ringM l) (keyN key)
  have hsub : ∀ x ∈ allK (ringM l) (keyN key), x ∈ l := fun x hx => (mem_ringM l x).1 ((mem_allK _ _ x).1 hx)
  obtain ⟨r, hr⟩ : ∃ r, ringM l = r := ⟨_, rfl⟩
  simp only [hr] at HBB HRL HKE hk300 hksome hnd hsub hallen
  obtain ⟨al, hal⟩ : ∃ al, allK r (keyN key) = al := ⟨_, rfl⟩
  rw [hal] at hk300 hksome hnd hsub hallen
  obtain ⟨na, hna⟩ : ∃ na, al.length = na := ⟨_, rfl⟩
  obtain ⟨so, hso⟩ : ∃ so, al.take many = so := ⟨_, rfl⟩
  rw [hso] at hksome
  obtain ⟨ns, hns⟩ : ∃ ns, so.length = ns := ⟨_, rfl⟩
  have hnsm : ns = min na many := by rw [← hns, ← hso, List.length_take, hna]; omega
  have hso2 : al.take ns = so := by
    rw [← hso, hnsm, ← hna]
    rcases Nat.le_total many al.length with h | h
    · rw [Nat.min_eq_right h]
    · rw [Nat.min_eq_left h, List.take_length, List.take_of_length_le h]
  have hmm : min (na : Int) (many : Int) = (ns : Int) := by omega
  have hnsa : ns ≤ na := by omega
  have hwm : IntKind.i64.wrap (many : Int) = (many : Int) := by simp [IntKind.wrap, IntKind.bits, IntKind.signed]; omega
  have hmn : min na many = ns := hnsm.symm
  clear hnsm
  have HSO := hide_ hso2
  have HNS := hide_ hns
  have HNA := hide_ hna
  have HCT := hide_ (show (nubs (l.take n)).length = na by rw [← hn, List.take_length, ← hallen, hna])
  have HNUB := hide_ (fun k (hk : k < l.length) => nubs_take l k hk)
  have HNL := hide_ (fun k => show (nubs (l.take k)).length ≤ 80 by
    have h1 := nubs_len_le (l.take k)
    rw [List.length_take] at h1
    omega)
  have HS1 := hide_ (fun k (hk : k < l.length) => had1_set l k hk)
  have HS2 := hide_ (fun k (hk : k < al.length) => had2_set l al k hk)
  have HAT := hide_ (fun k (hk : k < al.length) => had2_at hnd hsub k hk)
  have HH0 := hide_ (show (fun (_ : UInt8) => (0 : Int)) = had1 (l.take 0) from rfl)
  have HH1 := hide_ (show had1 (l.take n) = had2 l (al.take 0) by
    funext x
    rw [← hn, List.take_length]
    rfl)
  have hna80 : na ≤ 80 := by omega
  obtain ⟨W0, hst, hbx, hbl, hs0⟩ := had_store w.heap.size w rfl
  have HX0 := hide_ (show BoxAt W0 w.heap.size (hadC (had1 (l.take 0))) 32 from hbx)
  have HB0 := hide_ hbl
  clear hperm hallen hnle hnd hsub hr hal hna hso hns hso2 hbx hbl hs hn
  go_enter Try.func5, Try.ntmps5
  go_wp2
  clear hst
  go_loopw [8, 9] (fun ct i wx => ∃ k : Nat, k ≤ n ∧ i = .int .i64 k ∧ ct = .int .i64 ((nubs (l.take k)).length : Nat) ∧ Hid (BoxAt wx w.heap.size (hadC (had1 (l.take k))) 32) ∧ Hid (Below w.heap.size w wx)) (fun _ i _ => n - (intOf i).toNat)
  case atStart => exact ⟨0, by omega, rfl, rfl, HX0, HB0⟩
  case round =>
    obtain ⟨k, hk, rfl, rfl, HX, HB⟩ := hrel
    have hcle := HNL.out k
    by_cases hlt : k < n
    · have hkl : k < l.length := by rw [HN.out]; exact hlt
      obtain ⟨b, o, rfl, hbB, hck⟩ := (HSV.out _ HB.out).u8 hkl
      have hst1 := HS1.out k hkl
      have hnu := HNUB.out k hkl
      obtain ⟨x, hx⟩ : ∃ x, l[k] = x := ⟨_, rfl⟩
      rw [hx] at hck hst1 hnu
      clear hx
      have hxl := x.toNat_lt
      have hcx := (HX.out.cell x.toNat).trans (hadC_get _ x)
      have hfx := HX.out.free9 x.toNat
      have hgw : w.heap.size < wr.heap.size := HX.out.lt
      have hbw : b < wr.heap.size := by omega
      have hbg : b ≠ w.heap.size := by omega
      have HX2 := hide_ (show BoxAt (wr.setCell ⟨w.heap.size, x.toNat, none⟩ (.int .i64 1)) w.heap.size (hadC (had1 (l.take (k + 1)))) 32 by
        have h := HX.out.set9 x.toNat (.int .i64 1)
        rw [hadC_set, hst1] at h
        exact h)
      have HB2 := hide_ (HB.out.setCell (show w.heap.size ≤ (⟨w.heap.size, x.toNat, none⟩ : Addr).block from Nat.le_refl _) (.int .i64 1))
      obtain ⟨ct, hct⟩ : ∃ ct, (nubs (l.take k)).length = ct := ⟨_, rfl⟩
      cases hin : (l.take k).contains x with
      | true =>
        have hv : had1 (l.take k) x = 1 := by unfold had1; rw [hin]; rfl
        have HCN := hide_ (show (nubs (l.take (k + 1))).length = ct by rw [hnu, nubStep_in ((mem_nubs _ _).2 (List.contains_iff_mem.1 hin)), hct])
        rw [hv] at hcx
        rw [hct] at hcle ⊢
        clear hin hv hnu hst1 hct
        go_wp2
        go_roundw
        case rel => exact ⟨k + 1, by omega, by go_num, by rw [HCN.out], HX2, HB2⟩
        case measure => simp [intOf]; omega
      | false =>
        have hv : had1 (l.take k) x = 0 := by unfold had1; rw [hin]; rfl
        have HCN := hide_ (show (nubs (l.take (k + 1))).length = ct + 1 by rw [hnu, nubStep_out (fun h => by rw [List.contains_iff_mem.2 ((mem_nubs _ _).1 h)] at hin; cases hin), List.length_append, hct]; rfl)
        rw [hv] at hcx
        rw [hct] at hcle ⊢
        clear hin hv hnu hst1 hct
        go_wp2
        go_roundw
        case rel => exact ⟨k + 1, by omega, by go_num, by rw [HCN.out]; go_num, HX2, HB2⟩
        case measure => simp [intOf]; omega
    · obtain rfl : n = k := by omega
      rw [HCT.out]
      rw [HH1.out] at HX
      have hgw : w.heap.size < wr.heap.size := HX.out.lt
      go_wp2_with fail
      refine (HBB.out _ HB.out).mono ?_
      rintro e w1 ⟨A1, n1, c1, rfl, hl1, ho1, hb1⟩
      have HR1 := hide_ (Sees.ownRow9 ho1)
      have HL1 := hide_ hl1
      have hn1 : n1 ≤ 1000 := by have := HRL.out; omega
      have HX1 := hide_ (HX.out.below hb1)
      have HB1 := hide_ (HB.out.trans (hb1.mono HB.out.size))
      clear hl1 ho1 hb1
      go_wp2_with fail
      refine (HKE.out w1 300 w1.heap.size A1 n1 c1 HL1.out hn1 HR1.out (Nat.le_refl _)).mono ?_
      rw [hk300, HNA.out]
      rintro e w2 ⟨A2, c2, rfl, ho2, hb2⟩
      have HO2 := hide_ ho2
      have HX2 := hide_ (HX1.out.below hb2)
      have HB2 := hide_ (HB1.out.trans (hb2.mono HB1.out.size))
      have HR2 := hide_ (HR1.out.below hb2)
      have hz2 := hb2.size
      clear ho2 hb2
      go_wp2_with fail
      refine (HKE.out w2 many w1.heap.size A1 n1 c1 HL1.out hn1 HR2.out hz2).mono ?_
      rw [hksome, HNS.out]
      rintro e w3 ⟨A3, c3, rfl, ho3, hb3⟩
      have hcap := own_cap HO2.out
      have hcap3 : c2 ≤ 9223372036854775807 := by
        rcases HO2.out.2 with ⟨h0, h0'⟩ | ⟨_, _, _, h0, _, _, _, hm, _⟩
        · injection h0 with _ _ h0
          omega
        · injection h0 with _ _ h0
          unfold maxLen at hm
          omega
      have HX3 := hide_ (HX2.out.below hb3)
      have HB3 := hide_ (HB2.out.trans (hb3.mono HB2.out.size))
      have hg1 : w.heap.size < w1.heap.size := HX1.out.lt
      have hg3 : w.heap.size < w3.heap.size := HX3.out.lt
      have HO2B := hide_ (own_below HO2.out hb3)
      have HV := hide_ (fun (u : World) (hu : w3.grownBy u (some w.heap.size)) => show Sees u u.heap.size A2 (bv al) ∧ Sees u u.heap.size A3 (bv so) from
        ⟨Sees.ownRow9 (own_other9 HO2B.out (fun e => by have := (HO2B.out.lt _ e.symm).1; omega) hu), Sees.ownRow9 (own_other9 ho3 (fun e => by have := (ho3.lt _ e.symm).1; omega) hu)⟩)
      have HG3 := hide_ (World.grownBy.refl w3 (some w.heap.size))
      clear ho3 hb3 HBB HKE HO2 HX1 HX2 HX HB HB1 HB2 HR1 HR2 HS1 HNUB HNL HX0 HB0
      go_wp2
      go_loopw [13] (fun i wx => ∃ j : Nat, j ≤ na ∧ i = .int .i64 j ∧ Hid (BoxAt wx w.heap.size (hadC (had2 l (al.take j))) 32) ∧ Hid (w3.grownBy wx (some w.heap.size))) (fun i _ => na - (intOf i).toNat)
      case atStart => exact ⟨0, by omega, rfl, HX3, HG3⟩
      case round =>
        obtain ⟨j, hj, rfl, HX, HG⟩ := hrel
        by_cases hlt : j < na
        · have hjl : j < al.length := by rw [HNA.out]; exact hlt
          obtain ⟨b, o, rfl, hbB, hck⟩ := (HV.out _ HG.out).1.u8 hjl
          have hst2 := HS2.out j hjl
          have hat := HAT.out j hjl
          obtain ⟨x, hx⟩ : ∃ x, al[j] = x := ⟨_, rfl⟩
          rw [hx] at hck hst2 hat
          clear hx
          have hxl := x.toNat_lt
          have hcx := (HX.out.cell x.toNat).trans (hadC_get _ x)
          rw [hat] at hcx
          have hfx := HX.out.free9 x.toNat
          have hgw : w.heap.size < wr.heap.size := HX.out.lt
          have HX2 := hide_ (show BoxAt (wr.setCell ⟨w.heap.size, x.toNat, none⟩ (.int .i64 2)) w.heap.size (hadC (had2 l (al.take (j + 1)))) 32 by
            have h := HX.out.set9 x.toNat (.int .i64 2)
            rw [hadC_set, hst2] at h
            exact h)
          have HG2 := hide_ (grown_set HG.out x.toNat (.int .i64 2))
          clear hst2 hat
          go_wp2
          go_roundw
          case rel => exact ⟨j + 1, by omega, by go_num, HX2, HG2⟩
          case measure => simp [intOf]; omega
        · obtain rfl : na = j := by omega
          have HWR := hide_ (HB3.out.grown HG.out HB3.out.size (fun q hq => by injection hq with hq; omega))
          have HC1 := hide_ (fun (u : World) (hu : Below wr.heap.size wr u) => run_str (P := Try.prog) u 22 9 5 Try.underlying22 Try.underlying5 Try.underlying9 so wr.heap.size A2 ns c2 HNS.out (by rw [← HSO.out, bv_take]; exact ((HV.out _ HG.out).1.below hu).take ns))
          have HC2 := hide_ (fun (u : World) (hu : Below wr.heap.size wr u) => run_str (P := Try.prog) u 22 9 5 Try.underlying22 Try.underlying5 Try.underlying9 so wr.heap.size A3 ns c3 HNS.out ((HV.out _ HG.out).2.below hu))
          have HA := hide_ (fun (u : World) (_ : Below wr.heap.size wr u) => awake09_any u)
          have HQ_w5 := hide_ (Below.refl wr.heap.size wr)
          have hnc : ns ≤ c2 := by omega
          go_upto_region 19 with fail
          refine wp_region_held_drew (S := fun u => Below wr.heap.size wr u) (by kernel_rfl) ((Below.refl _ _).drew) (fun hHeld => ?_)
          refine wpAnyH_take (i := 0) (oi := ⟨some 67, _, _, _, _, _⟩) (v := ?hv1) rfl (by kernel_rfl) (by kernel_rfl) (by kernel_rfl) (fun _ _ _ h => h) (Or.inl ⟨by rfl, ?hyy1⟩) (by assumption) ?hrest1
          case hyy1 => intro w hSw; (try dsimp only at hSw); go_simp <;> with_reducible rfl
          simp only [Act.put, List.setIfInBounds_toArray, List.set_cons_zero, List.set_cons_succ]
          refine wpAnyH_take (i := 1) (oi := ⟨some 68, _, _, _, _, _⟩) (v := ?hv2) rfl (by kernel_rfl) (by kernel_rfl) (by kernel_rfl) (fun _ _ _ h => h) (Or.inl ⟨by rfl, ?hyy2⟩) (by assumption) ?hrest2
          case hyy2 => intro w hSw; (try dsimp only at hSw); go_simp <;> with_reducible rfl
          simp only [Act.put, List.setIfInBounds_toArray, List.set_cons_zero, List.set_cons_succ]
          refine wpAnyH_take (i := 2) (oi := ⟨some 69, _, _, _, _, _⟩) (v := ?hv3) rfl (by kernel_rfl) (by kernel_rfl) (by kernel_rfl) (fun _ _ _ h => h) (Or.inl ⟨by rfl, ?hyy3⟩) (by assumption) ?hrest3
          case hyy3 => intro w hSw; (try dsimp only at hSw); go_simp <;> with_reducible rfl
          simp only [Act.put, List.setIfInBounds_toArray, List.set_cons_zero, List.set_cons_succ]
          refine wpAnyH_take (i := 3) (oi := ⟨some 70, _, _, _, _, _⟩) (v := ?hv4) rfl (by kernel_rfl) (by kernel_rfl) (by kernel_rfl) (fun _ _ _ h => h) (Or.inl ⟨by rfl, ?hyy4⟩) (by assumption) ?hrest4
          case hyy4 => intro w hSw; (try dsimp only at hSw); go_simp <;> with_reducible rfl
          simp only [Act.put, List.setIfInBounds_toArray, List.set_cons_zero, List.set_cons_succ]
          refine wpAnyH_take (i := 4) (oi := ⟨some 71, _, _, _, _, _⟩) (v := ?hv5) rfl (by kernel_rfl) (by kernel_rfl) (by kernel_rfl) (fun _ _ _ h => h) (Or.inl ⟨by rfl, ?hyy5⟩) (by assumption) ?hrest5
          case hyy5 => intro w hSw; (try dsimp only at hSw); go_simp <;> with_reducible rfl
          simp only [Act.put, List.setIfInBounds_toArray, List.set_cons_zero, List.set_cons_succ]
          refine wpAnyH_take (i := 5) (oi := ⟨some 72, _, _, _, _, _⟩) (v := ?hv6) rfl (by kernel_rfl) (by kernel_rfl) (by kernel_rfl) (fun _ _ _ h => h) (Or.inl ⟨by rfl, ?hyy6⟩) (by assumption) ?hrest6
          case hyy6 => intro w hSw; (try dsimp only at hSw); go_simp <;> with_reducible rfl
          simp only [Act.put, List.setIfInBounds_toArray, List.set_cons_zero, List.set_cons_succ]
          refine wpAnyH_take (i := 6) (oi := ⟨some 73, _, _, _, _, _⟩) (v := ?hv7) rfl (by kernel_rfl) (by kernel_rfl) (by kernel_rfl) (fun _ _ _ h => h) (Or.inl ⟨by rfl, ?hyy7⟩) (by assumption) ?hrest7
          case hyy7 => intro w hSw; (try dsimp only at hSw); go_simp <;> with_reducible rfl
          simp only [Act.put, List.setIfInBounds_toArray, List.set_cons_zero, List.set_cons_succ]
          refine wpAnyH_take (i := 7) (oi := ⟨some 74, _, _, _, _, _⟩) (v := ?hv8) rfl (by kernel_rfl) (by kernel_rfl) (by kernel_rfl) (fun _ _ _ h => h) (Or.inl ⟨by rfl, ?hyy8⟩) (by assumption) ?hrest8
          case hyy8 => intro w hSw; (try dsimp only at hSw); go_simp <;> with_reducible rfl
          simp only [Act.put, List.setIfInBounds_toArray, List.set_cons_zero, List.set_cons_succ]
          refine wpAnyH_take (i := 8) (oi := ⟨some 75, _, _, _, _, _⟩) (v := ?hv9) rfl (by kernel_rfl) (by kernel_rfl) (by kernel_rfl) (fun _ _ _ h => h) (Or.inl ⟨by rfl, ?hyy9⟩) (by assumption) ?hrest9
          case hyy9 => intro w hSw; (try dsimp only at hSw); go_simp <;> with_reducible rfl
          simp only [Act.put, List.setIfInBounds_toArray, List.set_cons_zero, List.set_cons_succ]
          refine wpAnyH_take (i := 9) (oi := ⟨some 76, _, _, _, _, _⟩) (v := ?hv10) rfl (by kernel_rfl) (by kernel_rfl) (by kernel_rfl) (fun _ _ _ h => h) (Or.inl ⟨by rfl, ?hyy10⟩) (by assumption) ?hrest10
          case hyy10 => intro w hSw; (try dsimp only at hSw); go_simp <;> with_reducible rfl
          simp only [Act.put, List.setIfInBounds_toArray, List.set_cons_zero, List.set_cons_succ]
          refine wpAnyH_take (i := 10) (oi := ⟨some 77, _, _, _, _, _⟩) (v := ?hv11) rfl (by kernel_rfl) (by kernel_rfl) (by kernel_rfl) (fun _ _ _ h => h) (Or.inl ⟨by rfl, ?hyy11⟩) (by assumption) ?hrest11
          case hyy11 => intro w hSw; (try dsimp only at hSw); go_simp <;> with_reducible rfl
          simp only [Act.put, List.setIfInBounds_toArray, List.set_cons_zero, List.set_cons_succ]
          refine wpAnyH_take (i := 11) (oi := ⟨some 78, _, _, _, _, _⟩) (v := ?hv12) rfl (by kernel_rfl) (by kernel_rfl) (by kernel_rfl) (fun _ _ _ h => h) (Or.inl ⟨by rfl, ?hyy12⟩) (by assumption) ?hrest12
          case hyy12 => intro w hSw; (try dsimp only at hSw); go_simp <;> with_reducible rfl
          simp only [Act.put, List.setIfInBounds_toArray, List.set_cons_zero, List.set_cons_succ]
          refine wpAnyH_take (i := 12) (oi := ⟨some 79, _, _, _, _, _⟩) (v := ?hv13) rfl (by kernel_rfl) (by kernel_rfl) (by kernel_rfl) (fun _ _ _ h => h) (Or.inl ⟨by rfl, ?hyy13⟩) (by assumption) ?hrest13
          case hyy13 => intro w hSw; (try dsimp only at hSw); go_simp <;> with_reducible rfl
          simp only [Act.put, List.setIfInBounds_toArray, List.set_cons_zero, List.set_cons_succ]
          refine wpAnyH_take (i := 13) (oi := ⟨some 80, _, _, _, _, _⟩) (v := ?hv14) rfl (by kernel_rfl) (by kernel_rfl) (by kernel_rfl) (fun _ _ _ h => h) (Or.inl ⟨by rfl, ?hyy14⟩) (by assumption) ?hrest14
          case hyy14 => intro w hSw; (try dsimp only at hSw); go_simp <;> with_reducible rfl
          simp only [Act.put, List.setIfInBounds_toArray, List.set_cons_zero, List.set_cons_succ]
          refine wpAnyH_take (i := 14) (oi := ⟨some 81, _, _, _, _, _⟩) (v := ?hv15) rfl (by kernel_rfl) (by kernel_rfl) (by kernel_rfl) (fun _ _ _ h => h) (Or.inl ⟨by rfl, ?hyy15⟩) (by assumption) ?hrest15
          case hyy15 => intro w hSw; (try dsimp only at hSw); go_simp <;> with_reducible rfl
          simp only [Act.put, List.setIfInBounds_toArray, List.set_cons_zero, List.set_cons_succ]
          refine wpAnyH_take (i := 15) (oi := ⟨some 82, _, _, _, _, _⟩) (v := ?hv16) rfl (by kernel_rfl) (by kernel_rfl) (by kernel_rfl) (fun _ _ _ h => h) (Or.inl ⟨by rfl, ?hyy16⟩) (by assumption) ?hrest16
          case hyy16 => intro w hSw; (try dsimp only at hSw); go_simp <;> with_reducible rfl
          simp only [Act.put, List.setIfInBounds_toArray, List.set_cons_zero, List.set_cons_succ]
          refine wpAnyH_take (i := 16) (oi := ⟨some 83, _, _, _, _, _⟩) (v := ?hv17) rfl (by kernel_rfl) (by kernel_rfl) (by kernel_rfl) (fun _ _ _ h => h) (Or.inl ⟨by rfl, ?hyy17⟩) (by assumption) ?hrest17
          case hyy17 => intro w hSw; (try dsimp only at hSw); go_simp <;> with_reducible rfl
          simp only [Act.put, List.setIfInBounds_toArray, List.set_cons_zero, List.set_cons_succ]
          refine wpAnyH_take (i := 17) (oi := ⟨some 84, _, _, _, _, _⟩) (v := ?hv18) rfl (by kernel_rfl) (by kernel_rfl) (by kernel_rfl) (fun _ _ _ h => h) (Or.inl ⟨by rfl, ?hyy18⟩) (by assumption) ?hrest18
          case hyy18 => intro w hSw; (try dsimp only at hSw); go_simp <;> with_reducible rfl
          simp only [Act.put, List.setIfInBounds_toArray, List.set_cons_zero, List.set_cons_succ]
          refine wpAnyH_take (i := 18) (oi := ⟨some 85, _, _, _, _, _⟩) (v := ?hv19) rfl (by kernel_rfl) (by kernel_rfl) (by kernel_rfl) (fun _ _ _ h => h) (Or.inl ⟨by rfl, ?hyy19⟩) (by assumption) ?hrest19
          case hyy19 => intro w hSw; (try dsimp only at hSw); have hcv := HC1.out _ hSw; go_simp <;> with_reducible rfl
          simp only [Act.put, List.setIfInBounds_toArray, List.set_cons_zero, List.set_cons_succ]
          refine wpAnyH_take (i := 19) (oi := ⟨some 86, _, _, _, _, _⟩) (v := ?hv20) rfl (by kernel_rfl) (by kernel_rfl) (by kernel_rfl) (fun _ _ _ h => h) (Or.inl ⟨by rfl, ?hyy20⟩) (by assumption) ?hrest20
          case hyy20 => intro w hSw; (try dsimp only at hSw); go_simp <;> with_reducible rfl
          simp only [Act.put, List.setIfInBounds_toArray, List.set_cons_zero, List.set_cons_succ]
          refine wpAnyH_take (i := 20) (oi := ⟨some 87, _, _, _, _, _⟩) (v := ?hv21) rfl (by kernel_rfl) (by kernel_rfl) (by kernel_rfl) (fun _ _ _ h => h) (Or.inl ⟨by rfl, ?hyy21⟩) (by assumption) ?hrest21
          case hyy21 => intro w hSw; (try dsimp only at hSw); have hcv := HC2.out _ hSw; go_simp <;> with_reducible rfl
          simp only [Act.put, List.setIfInBounds_toArray, List.set_cons_zero, List.set_cons_succ]
          refine wpAnyH_take (i := 21) (oi := ⟨some 88, _, _, _, _, _⟩) (v := ?hv22) rfl (by kernel_rfl) (by kernel_rfl) (by kernel_rfl) (fun _ _ _ h => h) (Or.inl ⟨by rfl, ?hyy22⟩) (by assumption) ?hrest22
          case hyy22 => intro w hSw; (try dsimp only at hSw); go_simp <;> with_reducible rfl
          simp only [Act.put, List.setIfInBounds_toArray, List.set_cons_zero, List.set_cons_succ]
          refine wpAnyH_take (i := 22) (oi := ⟨some 89, _, _, _, _, _⟩) (v := ?hv23) rfl (by kernel_rfl) (by kernel_rfl) (by kernel_rfl) (fun _ _ _ h => h) (Or.inl ⟨by rfl, ?hyy23⟩) (by assumption) ?hrest23
          case hyy23 => intro w hSw; (try dsimp only at hSw); go_simp <;> with_reducible rfl
          simp only [Act.put, List.setIfInBounds_toArray, List.set_cons_zero, List.set_cons_succ]
          refine wpAnyH_take (i := 23) (oi := ⟨some 90, _, _, _, _, _⟩) (v := ?hv24) rfl (by kernel_rfl) (by kernel_rfl) (by kernel_rfl) (fun _ _ _ h => h) (Or.inl ⟨by rfl, ?hyy24⟩) (by assumption) ?hrest24
          case hyy24 => intro w hSw; (try dsimp only at hSw); go_simp <;> with_reducible rfl
          simp only [Act.put, List.setIfInBounds_toArray, List.set_cons_zero, List.set_cons_succ]
          refine wpAnyH_ready (rs := [24]) (by kernel_rfl) (by simp) ?_
          refine AllReadyH.cons rfl (fun K hK => ?_) AllReadyH.nil
          go_simp
          go_wp2_with fail
          refine (HA.out _ (HQ_w5.out.trans (hHeld.mono HQ_w5.out.size))).mono ?_
          rintro e v1 ⟨rfl, hb_⟩
          have HP_v1 := hide_ (hHeld.trans (hb_.mono hHeld.size))
          have HQ_v1 := hide_ (HQ_w5.out.trans (HP_v1.out.mono HQ_w5.out.size))
          clear hb_
          refine hK.out _ _ (HP_v1.out) (fun hHeld => ?_)
          clear hK K hHeld
          refine wpAnyH_more (S' := fun u => Below v1.heap.size v1 u) (fun u hu => HP_v1.out.trans (hu.mono HP_v1.out.size)) _ _ _ _ ?_
          have hHeld := Below.refl v1.heap.size v1
          refine wpAnyH_take (i := 25) (oi := ⟨some 92, _, _, _, _, _⟩) (v := ?hv25) rfl (by kernel_rfl) (by kernel_rfl) (by kernel_rfl) (fun _ _ _ h => h) (Or.inl ⟨by rfl, ?hyy25⟩) (by assumption) ?hrest25
          case hyy25 => intro w hSw; (try dsimp only at hSw); go_simp <;> with_reducible rfl
          simp only [Act.put, List.setIfInBounds_toArray, List.set_cons_zero, List.set_cons_succ]
          refine wpAnyH_take (i := 26) (oi := ⟨some 6, _, _, _, _, _⟩) (v := ?hv26) rfl (by kernel_rfl) (by kernel_rfl) (by kernel_rfl) (fun _ _ _ h => h) (Or.inl ⟨by rfl, ?hyy26⟩) (by assumption) ?hrest26
          case hyy26 => intro w hSw; (try dsimp only at hSw); go_simp <;> with_reducible rfl
          simp only [Act.put, List.setIfInBounds_toArray, List.set_cons_zero, List.set_cons_succ]
          refine wpAnyH_done (by kernel_rfl) ?_ _
          go_wp2
          go_ret
          exact ⟨rfl, HWR.out.trans (HQ_v1.out.mono HWR.out.size)⟩

theorem own : ownKnob Try.prog.godebug = none := by kernel_rfl
theorem laid : laidOutB Try.prog = true := by kernel_rfl
theorem cells8 : Try.prog.cellsOf 5 = 1 := by kernel_rfl

set_option maxRecDepth 100000 in
theorem contract (H : Type) (enc : TypeId × Value → H) (W : World) (base : Nat) (args : Array Value) (ds gs : List (DataW H)) (before : List MemPlace)
    (hval : ∀ (j : Nat) t v, Try.f5.params[j]? = some t → args[j]? = some v → Value.okWide Try.prog W .any base t v)
    (hW : DataW.Whole enc Try.prog Try.f5.params.toList Rows.ringWholeSpec.vars false W args.toList ds gs before) :
    Calls Try.prog 5 args W fun e W' => ∃ v, e = .returned v ∧ Rows.ringWholeSpec.post enc Try.prog Try.f5 false true false false W args v W' := by
  have hW' := hW
  obtain ⟨p, q, hA0, hV, rfl, hfz, hnd⟩ := hW
  have hA : DataW.TrodAll enc Try.prog W 0 (fun _ => true) true Try.f5.params.toList args.toList ds p := hA0
  rw [Try.params5] at hA hval
  obtain ⟨v0, vs0, d0, ds0, p0, q0, hargs, rfl, rfl, h0, r0⟩ := trodAll_cons hA
  obtain ⟨v1, vs1, d1, ds1, p1, q1, rfl, rfl, rfl, h1, r1⟩ := trodAll_cons r0
  obtain ⟨v2, vs2, d2, ds2, p2, q2, rfl, rfl, rfl, h2, r2⟩ := trodAll_cons r1
  obtain ⟨rfl, rfl, rfl⟩ := trodAll_nil r2
  obtain rfl : args = #[v0, v1, v2] := by cases args; simp_all
  obtain ⟨rfl, rfl⟩ := trodVars_none hV
  obtain ⟨A0, n0, c0, l0, rfl, e0, m0, M0, s0⟩ := open_bytes Try.underlying22 Try.underlying5 cells8 (hval 0 22 v0 rfl rfl) h0
  obtain ⟨a1, rfl, rfl, rfl, w1⟩ := open_int Try.underlying5 (hval 1 5 v1 rfl rfl) h1
  have b1 : 0 ≤ a1 ∧ a1 ≤ 255 := by simpa [Lit.wf, IntKind.min, IntKind.max, IntKind.signed, IntKind.bits] using w1
  obtain ⟨a2, rfl, rfl, rfl, w2⟩ := open_int Try.underlying5 (hval 2 5 v2 rfl rfl) h2
  have b2 : 0 ≤ a2 ∧ a2 ≤ 255 := by simpa [Lit.wf, IntKind.min, IntKind.max, IntKind.signed, IntKind.bits] using w2
  have fin : ∀ (e : Ending) (W' : World), e = .returned (.bool true) ∧ Below W.heap.size W W' → ∃ v, e = .returned v ∧ Rows.ringWholeSpec.post enc Try.prog Try.f5 false true false false W #[.slice A0 n0 c0, .int .u8 a1, .int .u8 a2] v W' :=
    fun e W' ⟨he, hb⟩ => ⟨_, he, law_post laid (by kernel_rfl) rfl rfl rfl Try.underlying4 hW' hb⟩
  obtain ⟨key, rfl⟩ : ∃ x : UInt8, a1 = (x.toNat : Int) := ⟨UInt8.ofNat a1.toNat, by rw [UInt8.toNat_ofNat']; omega⟩
  obtain ⟨many, rfl⟩ : ∃ x : Nat, a2 = (x : Int) := ⟨a2.toNat, by omega⟩
  by_cases hlong : 80 < n0
  · exact (walk_long A0 n0 c0 _ _ W hlong (Nat.le_trans m0 M0)).mono fin
  · exact (walk_short l0 key many A0 n0 c0 W e0 (by omega) (by omega) s0).mono fin

set_option maxRecDepth 100000 in
theorem lifted (os : Os) (started : os.Started) (H : Type) (enc : TypeId × Value → H) :
    ReturnsInHanded {} Try.checked os 5 .any (Rows.ringWholeSpec.pre6 enc Try.prog Try.f5 Rows.ringWholeRow.domain false) (Rows.ringWholeSpec.post enc Try.prog Try.f5 false true false false) := by
  refine returnsInHanded_of_change (C := Try.checked) (s := Rows.ringWholeSpec) own started (by kernel_rfl) Try.func5
    (ChangeSpec.witness6 (enc := enc) (C := Try.checked) false ⟨#[], #[.slice none 0 0, .int .u8 0, .int .u8 0], []⟩ 8 (by kernel_rfl) (by kernel_rfl) (by kernel_rfl) (by kernel_rfl)) ?_
  intro W base args ds gs before hval hW _ _
  exact contract H enc W base args ds gs before hval hW

theorem proved : Rows.RingWholeSaid :=
  OpenClaim.holds_of_wide 5 Try.f5 rfl rfl rfl rfl rfl rfl rfl ⟨rfl, rfl, rfl, rfl, rfl⟩ rfl rfl rfl rfl rfl (by kernel_rfl) Try.func5 (by kernel_rfl)
    (of_decide_eq_true (by kernel_rfl)) (by unfold Func.isWrapper; first | (rw [if_pos (by decide +kernel)]; kernel_rfl) | (rw [if_neg (by decide +kernel)]; exact ⟨rfl, rfl⟩))
    (fun os started H enc _ => lifted os started H enc)
end Go.Proofs.Ytpiikdinphnjbaa.ringWhole
