/-
  slices.Compact at bytes, in a row of one's own.
-/
import Derived.Test.YtlcgihdphdkhpaaLib8
import Derived.Test.YtlcgihdphdkhpaaConf3
namespace Go.Proofs.Ytlcgihdphdkhpaa
open Go.RowKit

/-! of each run one -/
def chg (l : List UInt8) (j : Nat) : Bool := decide (j = 0) || (l.getD j 0 != l.getD (j - 1) 0)
def ddU (l : List UInt8) (i : Nat) : List UInt8 := ((List.range i).filter (chg l)).map fun j => l.getD j 0
theorem ddU_succ (l : List UInt8) (i : Nat) : ddU l (i + 1) = if chg l i then ddU l i ++ [l.getD i 0] else ddU l i := by
  unfold ddU
  rw [List.range_succ, List.filter_append, List.map_append]
  cases h : chg l i with
  | false => rw [List.filter_cons_of_neg (by rw [h]; simp), List.filter_nil, List.map_nil, List.append_nil]; rfl
  | true => rw [List.filter_cons_of_pos h, List.filter_nil]; rfl
theorem ddU_len (l : List UInt8) (i : Nat) : (ddU l i).length ≤ i := by
  unfold ddU
  rw [List.length_map]
  refine Nat.le_trans (List.length_filter_le _ _) ?_
  simp
theorem ddU_all (l : List UInt8) : ∀ i, i ≤ l.length → (∀ j, j < i → chg l j = true) → ddU l i = l.take i
  | 0, _, _ => rfl
  | i + 1, hi, h => by
    rw [ddU_succ, h i (by omega), ddU_all l i (by omega) (fun j hj => h j (by omega)), if_pos rfl, List.take_succ_eq_append_getElem (by omega), List.getD_eq_getElem?_getD, List.getElem?_eq_getElem (by omega)]
    rfl
theorem ddU_mem {l : List UInt8} : ∀ j, j < l.length → l.getD j 0 ∈ ddU l l.length := by
  have key : ∀ j, ∃ i, i ≤ j ∧ chg l i = true ∧ l.getD i 0 = l.getD j 0 := by
    intro j
    induction j with
    | zero => exact ⟨0, Nat.le_refl _, rfl, rfl⟩
    | succ j ih =>
      cases h : chg l (j + 1) with
      | true => exact ⟨j + 1, Nat.le_refl _, h, rfl⟩
      | false =>
        obtain ⟨i, h1, h2, h3⟩ := ih
        refine ⟨i, by omega, h2, h3.trans ?_⟩
        simp only [chg, Nat.add_sub_cancel, Bool.or_eq_false_iff, bne_eq_false_iff_eq] at h
        exact h.2.symm
  intro j hj
  obtain ⟨i, h1, h2, h3⟩ := key j
  rw [ddU, List.mem_map]
  exact ⟨i, List.mem_filter.2 ⟨List.mem_range.2 (by omega), h2⟩, h3⟩
theorem ddU_sub {l : List UInt8} {x : UInt8} (h : x ∈ ddU l l.length) : x ∈ l := by
  rw [ddU, List.mem_map] at h
  obtain ⟨j, hj, rfl⟩ := h
  have := List.mem_range.1 (List.mem_filter.1 hj).1
  rw [List.getD_eq_getElem?_getD, List.getElem?_eq_getElem this]
  exact List.getElem_mem this
theorem listed_rises (l : List UInt8) : (listed l 256).Pairwise fun a b => a.toNat < b.toNat := by
  have hr : ((List.range 256).map UInt8.ofNat).Pairwise (fun a b => a.toNat < b.toNat) := by decide +kernel
  exact hr.filter _
/-- what rises, of each run one, is what is listed -/
theorem ddU_listed {l : List UInt8} (hl : l.Pairwise fun a b => leB a b = true) : ddU l l.length = listed l 256 := by
  have hlt : ∀ i j, i < j → j < l.length → (l.getD i 0).toNat ≤ (l.getD j 0).toNat := by
    intro i j hij hj
    have := List.pairwise_iff_getElem.1 hl i j (by omega) hj hij
    rw [List.getD_eq_getElem?_getD, List.getD_eq_getElem?_getD, List.getElem?_eq_getElem (by omega), List.getElem?_eq_getElem hj]
    simpa [leB] using this
  have hup : (ddU l l.length).Pairwise fun a b => a.toNat < b.toNat := by
    rw [ddU, List.pairwise_map]
    have h0 : ((List.range l.length).filter (chg l)).Pairwise (· < ·) := (List.pairwise_lt_range).filter _
    refine h0.imp_of_mem fun {a b} ha hb hab => ?_
    have hb1 := List.mem_range.1 (List.mem_filter.1 hb).1
    have hb2 := (List.mem_filter.1 hb).2
    have h2 : (l.getD (b - 1) 0).toNat ≤ (l.getD b 0).toNat := hlt _ _ (by omega) hb1
    have h3 : (l.getD a 0).toNat ≤ (l.getD (b - 1) 0).toNat := by
      rcases Nat.lt_or_ge a (b - 1) with h | h
      · exact hlt _ _ h (by omega)
      · rw [show b - 1 = a by omega]
        exact Nat.le_refl _
    have h4 : l.getD b 0 ≠ l.getD (b - 1) 0 := by
      simp only [chg, Bool.or_eq_true, decide_eq_true_eq, bne_iff_ne] at hb2
      rcases hb2 with h | h
      · omega
      · exact h
    have h5 : (l.getD b 0).toNat ≠ (l.getD (b - 1) 0).toNat := fun e => h4 (UInt8.toNat_inj.1 e)
    omega
  have hn : ∀ {m : List UInt8}, m.Pairwise (fun a b => a.toNat < b.toNat) → m.Nodup := fun h => h.imp fun hab e => by subst e; omega
  have hp := nub_perm (hn hup) (hn (listed_rises l)) fun x => by
    rw [listed, List.mem_filter, List.contains_iff_mem]
    constructor
    · intro h
      exact ⟨List.mem_map.2 ⟨x.toNat, by have := x.toNat_lt; simp; omega, by simp⟩, ddU_sub h⟩
    · rintro ⟨_, h⟩
      obtain ⟨j, hj, rfl⟩ := List.getElem_of_mem h
      have := ddU_mem j hj
      rwa [List.getD_eq_getElem?_getD, List.getElem?_eq_getElem hj] at this
  exact hp.eq_of_pairwise (fun a b _ _ h k => by omega) hup (listed_rises l)

/-- how the inner loop stands -/
structure Cmp (l r : List UInt8) (m i : Nat) : Prop where
  len : r.length = l.length
  tk : r.take m = ddU l i
  dr : r.drop (i - 1) = l.drop (i - 1)
  le : m ≤ i - 1
theorem Cmp.at {l r : List UInt8} {m i j : Nat} (h : Cmp l r m i) (hj : i - 1 ≤ j) (hl : j < l.length) : r.getD j 0 = l.getD j 0 ∧ ∃ hr : j < r.length, r[j] = l.getD j 0 := by
  have hr : j < r.length := by rw [h.len]; exact hl
  have e : r[j]? = l[j]? := by
    have := congrArg (fun x => x[j - (i - 1)]?) h.dr
    simp only [List.getElem?_drop] at this
    rwa [show i - 1 + (j - (i - 1)) = j by omega] at this
  have e2 : r.getD j 0 = l.getD j 0 := by rw [List.getD_eq_getElem?_getD, List.getD_eq_getElem?_getD, e]
  refine ⟨e2, hr, ?_⟩
  rw [← e2, List.getD_eq_getElem?_getD, List.getElem?_eq_getElem hr]
  rfl
theorem Cmp.skip {l r : List UInt8} {m i : Nat} (h : Cmp l r m i) (hi : 1 ≤ i) (hc : chg l i = false) : Cmp l r m (i + 1) where
  len := h.len
  tk := by rw [ddU_succ, hc]; exact h.tk
  dr := by
    have := congrArg (List.drop 1) h.dr
    rwa [List.drop_drop, List.drop_drop, show i - 1 + 1 = i + 1 - 1 by omega] at this
  le := by have := h.le; omega
theorem Cmp.put {l r : List UInt8} {m i : Nat} (h : Cmp l r m i) (hi : 1 ≤ i) (hl : i < l.length) (hc : chg l i = true) : Cmp l (r.set m (l.getD i 0)) (m + 1) (i + 1) where
  len := by rw [List.length_set]; exact h.len
  tk := by
    have hm : m < r.length := by have := h.le; rw [h.len]; omega
    rw [ddU_succ, hc, if_pos rfl, ← h.tk, List.take_succ_eq_append_getElem (by rw [List.length_set]; exact hm), List.take_set_of_le (Nat.le_refl _), List.getElem_set_self]
  dr := by
    have := congrArg (List.drop 1) h.dr
    rw [List.drop_drop, List.drop_drop, show i - 1 + 1 = i + 1 - 1 by omega] at this
    rw [List.drop_set_of_lt (by have := h.le; omega)]
    exact this
  le := by have := h.le; omega
theorem chg_of {l : List UInt8} {j : Nat} (hj : 1 ≤ j) : chg l j = (l.getD j 0 != l.getD (j - 1) 0) := by
  rw [chg, show decide (j = 0) = false from decide_eq_false (by omega), Bool.false_or]

theorem drew_own {w u : World} {base s n : Nat} {e : TypeId} {v : Value} {xs : List Value} (h : w.ownsRow base e s v n xs) (hu : ∃ q, u = w.drewN q) : u.ownsRow base e s v n xs := by
  obtain ⟨q, rfl⟩ := hu
  exact h
theorem drew_grown {w u : World} (hu : ∃ q, u = w.drewN q) (row : Option Nat) : w.grownBy u row := by
  obtain ⟨q, rfl⟩ := hu
  exact ⟨rfl, rfl, rfl, Nat.le_refl _, fun _ _ _ => rfl⟩

set_option maxRecDepth 100000 in
set_option maxHeartbeats 3200000 in
theorem compact8_any (l : List UInt8) (base n c : Nat) (A : Option Addr) (w : World) (hl : l.length = n) (hn : n ≤ 12) (hb : base ≤ w.heap.size) (h : w.ownsRow base 5 1 (.slice A n c) n (bv l)) :
    Calls Try.prog 34 #[.slice A n c] w fun e w' => ∃ A' c', e = .returned (.slice A' (ddU l n).length c') ∧ Sees w' w'.heap.size A' (bv (ddU l n)) ∧ Below base w w' := by
  by_cases hsm : n < 2
  · have HD := hide_ (show ddU l n = l by
      rw [ddU_all l n (by omega) (fun j hj => by
        have h0 : j = 0 := by omega
        subst h0
        rfl), ← hl, List.take_length])
    rw [HD.out, hl]
    have HS := hide_ (Sees.ownRow9 h)
    go_enter Try.func34, Try.ntmps34
    go_wp2
    go_ret
    exact ⟨_, _, rfl, HS.out, Below.refl _ _⟩
  · obtain ⟨g, rfl, hg⟩ := own_some8 h (by omega)
    have hcn := own_cap h
    have hcm : c ≤ 9223372036854775807 := by
      rcases h.2 with ⟨h0, h0'⟩ | ⟨_, _, _, h0, _, _, _, hm, _⟩
      · injection h0 with _ _ h0
        omega
      · injection h0 with _ _ h0
        unfold maxLen at hm
        omega
    subst hl
    have HO := hide_ h
    have HALL := hide_ (fun i (hi : i ≤ l.length) (hc : ∀ j, j < i → chg l j = true) => ddU_all l i hi hc)
    have HSU := hide_ (fun i => ddU_succ l i)
    have HLN := hide_ (fun i => ddU_len l i)
    have HTK := hide_ (show l.take l.length = l from List.take_length)
    clear h
    have HD0 := hide_ (show ∃ q, w = w.drewN q from ⟨0, rfl⟩)
    obtain ⟨R, hR⟩ : ∃ R, ddU l l.length = R := ⟨_, rfl⟩
    rw [hR]
    have HR := hide_ hR
    clear hR
    go_enter Try.func34, Try.ntmps34
    go_wp2
    go_loopw [3] (fun v wx => ∃ k : Nat, 1 ≤ k ∧ k ≤ l.length ∧ v = .int .i64 k ∧ Hid (∀ j, j < k → chg l j = true) ∧ Hid (∃ q, wx = w.drewN q)) (fun v _ => l.length - (intOf v).toNat)
    case atStart => exact ⟨1, by omega, by omega, rfl, hide_ (fun j hj => by
        have h0 : j = 0 := by omega
        subst h0
        rfl), HD0⟩
    case round =>
      obtain ⟨k, hk1, hk, rfl, HK, HD⟩ := hrel
      have HOW := hide_ (drew_own HO.out HD.out)
      by_cases hlt : k < l.length
      · obtain ⟨p, hp⟩ : ∃ p, k = p + 1 := ⟨k - 1, by omega⟩
        have hpl : p < l.length := by omega
        have hpk : p < k := by omega
        have hwr : IntKind.i64.wrap ((k : Int) - 1) = (p : Int) := by rw [hp]; simp [IntKind.wrap, IntKind.bits, IntKind.signed]; omega
        have HP := hide_ hp
        obtain ⟨ck, fk⟩ := own_get9 HOW.out hlt
        obtain ⟨cp, fp⟩ := own_get9 HOW.out hpl
        have hgs : g < wr.heap.size := World.block_lt_of_cell? wr _ ck
        have HC := hide_ (show chg l k = (l[k] != l[p]) by
          rw [chg_of hk1, List.getD_eq_getElem?_getD, List.getD_eq_getElem?_getD, show k - 1 = p by omega, List.getElem?_eq_getElem hlt, List.getElem?_eq_getElem hpl]
          rfl)
        obtain ⟨x, hx⟩ : ∃ x, l[k] = x := ⟨_, rfl⟩
        obtain ⟨y, hy⟩ : ∃ y, l[p] = y := ⟨_, rfl⟩
        rw [hx] at ck HC
        rw [hy] at cp HC
        clear hx hy hp
        obtain ⟨wo, hwo⟩ : ∃ wo, wo = wr := ⟨_, rfl⟩
        subst hwo
        by_cases hxy : x = y
        · have HCF := hide_ (show chg l k = false by rw [HC.out, hxy]; simp)
          have hdd : ((x.toNat : Int) == (y.toNat : Int)) = true := by rw [hxy]; simp
          have HM0 := hide_ (show Cmp l l k (k + 1) from ⟨rfl, by rw [HSU.out, HCF.out, HALL.out k hk HK.out]; rfl, rfl, by omega⟩)
          have HG0 := hide_ (drew_grown (drew_more HD.out 1) (some g))
          clear hxy HC
          go_upto_region 6 with fail
          go_quiet (fail)
          have HO1 := hide_ (show (wo.drewN nq).ownsRow base 5 1 (.slice (some ⟨g, 0, none⟩) l.length c) l.length (bv l) from HOW.out)
          have HG1 := hide_ (drew_grown (drew_more HD.out nq) (some g))
          have hck : ¬ (c = k) := by omega
          have hkl : (k : Int) ≤ (l.length : Int) := by omega
          obtain ⟨L, hL⟩ : ∃ L, l.length - k = L := ⟨_, rfl⟩
          obtain ⟨K2, hK2⟩ : ∃ K2, c - k = K2 := ⟨_, rfl⟩
          have hLL : l.length = k + L := by omega
          clear ck fk cp fp
          go_wp2
          go_loopw [3, 5] (fun kv iv wx => ∃ (m i2 : Nat) (r : List UInt8), 1 ≤ i2 ∧ i2 ≤ L ∧ m ≤ k + i2 - 1 ∧ kv = .int .i64 m ∧ iv = .int .i64 i2 ∧ Hid (Cmp l r m (k + i2)) ∧ Hid (wx.ownsRow base 5 1 (.slice (some ⟨g, 0, none⟩) l.length c) l.length (bv r)) ∧ Hid (w.grownBy wx (some g))) (fun _ iv _ => L - (intOf iv).toNat)
          case atStart => exact ⟨k, 1, l, by omega, by omega, by omega, rfl, rfl, HM0, HO1, HG1⟩
          case round =>
            obtain ⟨m, i2, r, hi1, hi2, hmi, rfl, rfl, HM, HO2, HG2⟩ := hrel
            by_cases hlt2 : i2 < L
            · obtain ⟨p2, hp2⟩ : ∃ p2, i2 = p2 + 1 := ⟨i2 - 1, by omega⟩
              have hpl2 : p2 < L := by omega
              have hwr2 : IntKind.i64.wrap ((i2 : Int) - 1) = (p2 : Int) := by rw [hp2]; simp [IntKind.wrap, IntKind.bits, IntKind.signed]; omega
              obtain ⟨_, hj1, ej1⟩ := HM.out.at (j := k + i2) (by omega) (by omega)
              obtain ⟨_, hj2, ej2⟩ := HM.out.at (j := k + p2) (by omega) (by omega)
              obtain ⟨ck, fk⟩ := own_get9 HO2.out hj1
              obtain ⟨cp, fp⟩ := own_get9 HO2.out hj2
              have hmr : m < r.length := by have := HM.out.len; omega
              obtain ⟨cm, fm⟩ := own_get9 HO2.out hmr
              rw [ej1] at ck
              rw [ej2] at cp
              have hgs : g < wr.heap.size := World.block_lt_of_cell? wr _ ck
              have hml : m < l.length := by omega
              have HC := hide_ (show chg l (k + i2) = (l.getD (k + i2) 0 != l.getD (k + p2) 0) by
                rw [chg_of (by omega), show k + i2 - 1 = k + p2 by omega])
              have HSK := hide_ (fun hc => HM.out.skip (by omega) hc)
              have HPU := hide_ (fun hc => HM.out.put (by omega) (show k + i2 < l.length by omega) hc)
              obtain ⟨x2, hx⟩ : ∃ x, l.getD (k + i2) 0 = x := ⟨_, rfl⟩
              obtain ⟨y2, hy⟩ : ∃ y, l.getD (k + p2) 0 = y := ⟨_, rfl⟩
              rw [hx] at ck HC HPU
              rw [hy] at cp HC
              have HX2 := hide_ (show x2.toNat < 256 from x2.toNat_lt)
              clear hx hy hp2 ej1 ej2 hj1 hj2
              by_cases hxy2 : x2 = y2
              · have HCF := hide_ (HSK.out (by rw [HC.out, hxy2]; simp))
                have hd2 : ((x2.toNat : Int) == (y2.toNat : Int)) = true := by rw [hxy2]; simp
                have hd3 : ((x2.toNat : Int) != (y2.toNat : Int)) = false := by rw [hxy2]; simp
                clear hxy2 HC HPU HSK
                go_upto_region 11 with fail
                go_quiet (fail)
                go_wp2
                go_roundw
                case rel => exact ⟨m, i2 + 1, r, by omega, by omega, by omega, rfl, by go_num, HCF, hide_ (show (wr.drewN _).ownsRow base 5 1 (.slice (some ⟨g, 0, none⟩) l.length c) l.length (bv r) from HO2.out), hide_ (grown_join HG2.out (drew_grown ⟨_, rfl⟩ _))⟩
                case measure => simp [intOf]; omega
              · have HCT := hide_ (HPU.out (by rw [HC.out, bne_iff_ne]; exact hxy2))
                have hne : ¬ ((x2.toNat : Int) = (y2.toNat : Int)) := fun e => hxy2 (UInt8.toNat_inj.1 (by omega))
                have hd2 : ((x2.toNat : Int) == (y2.toNat : Int)) = false := by rw [beq_eq_false_iff_ne]; exact hne
                have hd3 : ((x2.toNat : Int) != (y2.toNat : Int)) = true := by rw [bne_iff_ne]; exact hne
                clear hxy2 hne HC HPU HSK
                go_upto_region 11 with fail
                go_quiet (fail)
                have HO3 := hide_ (show ((wr.drewN nq).setCell ⟨g, m, none⟩ (.int .u8 (x2.toNat : Int))).ownsRow base 5 1 (.slice (some ⟨g, 0, none⟩) l.length c) l.length (bv (r.set m x2)) from own_set9 (own_drew9 HO2.out _) x2)
                have HG3 := hide_ (show w.grownBy ((wr.drewN nq).setCell ⟨g, m, none⟩ (.int .u8 (x2.toNat : Int))) (some g) from grown_set (grown_join HG2.out (drew_grown ⟨nq, rfl⟩ _)) _ _)
                go_wp2
                go_roundw
                case rel => exact ⟨m + 1, i2 + 1, r.set m x2, by omega, by omega, by omega, by go_num, by go_num, HCT, HO3, HG3⟩
                case measure => simp [intOf]; omega
            · obtain rfl : i2 = L := by omega
              have HTM := hide_ (show r.take m = R by rw [HM.out.tk, ← hLL, HR.out])
              have hrl := HM.out.len
              obtain ⟨i0, hi0, hz0, hz1, hz2⟩ := info_parts u8_info
              obtain ⟨hlen, h0 | ⟨g', cap', cur, h0, hlog, hgh, hnc, hcmm, hcs, htake⟩⟩ := HO2.out
              · exact absurd h0.1 (by simp)
              simp only [Value.slice.injEq, Option.some.injEq, Addr.mk.injEq, and_true, true_and] at h0
              obtain ⟨rfl, rfl⟩ := h0
              rw [Nat.mul_one] at hcs htake hlen
              have hml : m < l.length := by omega
              obtain ⟨U, hcl, ⟨Z, hZ, hUh⟩, hUg, hUs⟩ := run_clear_named (P := Try.prog) wr 23 5 i0 _ 1 g m (l.length - m) (c - m) cur 5 Try.underlying23 hi0 hz0 rfl (by omega) (by intro v hv; simp [Value.cells] at hv; rcases hv with rfl; rfl) (by omega) hgh (by rw [hcs]; omega)
              have hRl : R.length = m := by rw [← HTM.out, List.length_take]; omega
              have HOUT := hide_ (show U.ownsRow base 5 1 (.slice (some ⟨g, 0, none⟩) m c) m (bv R) from by
                refine ⟨by rw [bv_length, hRl, Nat.mul_one], .inr ⟨g, c, _, rfl, hlog, hUh, by omega, hcmm, ?_, ?_⟩⟩
                · simp only [List.size_toArray, List.length_append, List.length_take, List.length_drop, Array.length_toList, hcs, hZ]
                  omega
                · show List.take (m * 1) (cur.toList.take m ++ Z ++ _) = _
                  rw [Nat.mul_one, List.append_assoc, List.take_append_of_le_length (by simp only [List.length_take, Array.length_toList, hcs]; omega), List.take_take, Nat.min_self, ← HTM.out, bv_take, ← htake, List.take_take, Nat.min_eq_left (by omega)])
              have HBU := hide_ (show Below base w U from (Below.refl base w).grown (grown_join HG2.out hUg) hb (fun k hk => by injection hk with hk; omega))
              have hcm1 : ¬ (c = m) := by omega
              have hmI : (m : Int) ≤ (l.length : Int) := by omega
              have hmc : (m : Int) ≤ (c : Int) := by omega
              have hm2 : m ≤ c := by omega
              have hml2 : m ≤ l.length := by omega
              have HRL := hide_ hRl
              clear hLL hL hK2 hlen hgh hcs htake hUh hUg hUs hZ hi0 hz0 hz1 hz2 hRl HM HTM HO2
              go_wp2_with (at_builtin; refine wpList_clear_known _ rfl _ 23 rfl _ rfl hcl ?_)
              go_ret
              exact ⟨some ⟨g, 0, none⟩, c, by rw [HRL.out]; rfl, Sees.ownRow9 HOUT.out, HBU.out⟩
        · have HCT := hide_ (show chg l k = true by rw [HC.out, bne_iff_ne]; exact hxy)
          have hdd : ((x.toNat : Int) == (y.toNat : Int)) = false := by
            rw [beq_eq_false_iff_ne]
            intro e
            exact hxy (UInt8.toNat_inj.1 (by omega))
          have HK2 := hide_ (show ∀ j, j < k + 1 → chg l j = true from fun j hj => by
            rcases Nat.lt_or_ge j k with h | h
            · exact HK.out j h
            · obtain rfl : j = k := by omega
              exact HCT.out)
          clear hxy HC
          go_upto_region 6 with fail
          go_quiet (fail)
          go_wp2
          go_roundw
          case rel => exact ⟨k + 1, by omega, by omega, by go_num, HK2, drew_more HD.out _⟩
          case measure => simp [intOf]; omega
      · obtain rfl : k = l.length := by omega
        obtain rfl : R = l := HR.out.symm.trans ((HALL.out _ (Nat.le_refl _) HK.out).trans HTK.out)
        go_wp2
        go_ret
        exact ⟨_, _, rfl, Sees.ownRow9 HOW.out, drew_below HD.out _⟩
end Go.Proofs.Ytlcgihdphdkhpaa
