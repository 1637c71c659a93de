/-
  How a configuration comes in; what the law's own functions do.
-/
import Derived.Test.YtlcgihdphdkhpaaOpenBal
import Derived.Test.YtlcgihdphdkhpaaConf4
namespace Go.Proofs.Ytlcgihdphdkhpaa
open Go.ChangeShapes Go.WideShapes Go.ChangeAt Go.RowKit Go.Joins

section
variable {H : Type} {enc : TypeId × Value → H} {P : Program} {w : World} {base : Nat} {spare : Nat → Bool} {held : Bool}

theorem open_bytesc {fuel : Nat} {t e : TypeId} {v : Value} {y : DataW H × List MemPlace} (ht : P.underlying t = some (.slice e)) (he : P.underlying e = some (.int .u8)) (hc : P.cellsOf e = 1)
    (hf : DataW.trod enc P w base spare held fuel t [v] = some y) :
    ∃ (A : Option Addr) (n c : Nat) (l : List UInt8), v = .slice A n c ∧ l.length = n ∧ n ≤ c ∧ c ≤ maxLen ∧ Sees w w.heap.size A (bv l) := by
  rcases open_ints ht he hc hf with ⟨hcs, hx⟩ | ⟨a, n, c, zs, hcs, _, hl, hm, hz, _, hcell, hwf⟩
  · simp at hcs
    exact ⟨none, 0, 0, [], hcs, rfl, by omega, by simp [maxLen], Sees.empty _ _ _⟩
  · simp at hcs
    have hzl : n ≤ zs.length := by
      rw [hz]
      split <;> omega
    refine ⟨some a, n, c, (zs.take n).map fun z => UInt8.ofNat z.toNat, hcs, by simp; omega, hl, hm, fun h0 => ?_⟩
    have hn : 0 < n := by simp [bv] at h0; omega
    have h1 := hcell 0 (by omega)
    refine ⟨a, rfl, ?_, fun j u hu => ?_⟩
    · have := World.block_lt_of_cell? w _ h1
      rwa [add_block] at this
    · rw [bv_getElem?] at hu
      have hj : j < n := by
        rcases Nat.lt_or_ge j n with h | h
        · exact h
        · rw [List.getElem?_eq_none (by simp; omega)] at hu
          cases hu
      have hjl : j < zs.length := by omega
      rw [hcell j hjl]
      have hw := hwf zs[j] (List.getElem_mem hjl)
      have hb : 0 ≤ zs[j] ∧ zs[j] ≤ 255 := by simpa [Lit.wf, IntKind.min, IntKind.max, IntKind.signed, IntKind.bits] using hw
      simp [hj, hjl] at hu
      subst hu
      congr 1
      simp [List.getD, hjl]
      omega
end

theorem cells8c : Try.prog.cellsOf 5 = 1 := by kernel_rfl
section
variable {H : Type} {enc : TypeId × Value → H} {w : World} {base : Nat} {spare : Nat → Bool} {held : Bool}
set_option maxRecDepth 100000 in
theorem open_conf {r : Reach} {b0 : Nat} {v : Value} {d : DataW H} {p : List MemPlace} (hv : Value.okWide Try.prog w r b0 25 v) (h : DataW.Trod enc Try.prog w base spare held 25 v d p) :
    ∃ (C : Nat) (A1 : Option Addr) (n1 c1 : Nat) (l1 : List UInt8) (A2 : Option Addr) (n2 c2 : Nat) (l2 : List UInt8), v = .agg #[.int .u64 C, .slice A1 n1 c1, .slice A2 n2 c2] ∧ C < 18446744073709551616 ∧
      (l1.length = n1 ∧ n1 ≤ maxLen ∧ Sees w w.heap.size A1 (bv l1)) ∧ l2.length = n2 ∧ n2 ≤ maxLen ∧ Sees w w.heap.size A2 (bv l2) := by
  obtain ⟨v0, v1, v2, y0, y1, y2, m, rfl, _, _, h0, h1, h2⟩ := open_agg3 Try.underlying25 (by kernel_rfl) (by kernel_rfl) hv h
  obtain ⟨a, rfl, wa⟩ := open_num Try.underlying22 h0
  obtain ⟨A1, n1, c1, l1, rfl, e1, m1, M1, s1⟩ := open_bytesc Try.underlying23 Try.underlying5 cells8c h1
  obtain ⟨A2, n2, c2, l2, rfl, e2, m2, M2, s2⟩ := open_bytesc Try.underlying23 Try.underlying5 cells8c h2
  have ha : 0 ≤ a ∧ a ≤ 18446744073709551615 := by simpa [Lit.wf, IntKind.min, IntKind.max, IntKind.signed, IntKind.bits] using wa
  obtain ⟨x, rfl⟩ := Int.eq_ofNat_of_zero_le ha.1
  exact ⟨x, A1, n1, c1, l1, A2, n2, c2, l2, rfl, by omega, ⟨e1, by omega, s1⟩, e2, by omega, s2⟩
end

set_option maxRecDepth 100000 in
theorem great10_any (C : Nat) (A1 : Option Addr) (n1 c1 : Nat) (A2 : Option Addr) (n2 c2 : Nat) (w : World) (h1 : n1 ≤ maxLen) (h2 : n2 ≤ maxLen) :
    Calls Try.prog 7 #[.agg #[.int .u64 C, .slice A1 n1 c1, .slice A2 n2 c2]] w fun e w' => e = .returned (.bool (decide (80 < n1) || decide (80 < n2))) ∧ Below w.heap.size w w' := by
  unfold maxLen at h1 h2
  have HB := hide_ ((Below.refl w.heap.size w).alloc (Nat.le_refl _) (.cells #[.int .u64 C, .slice A1 n1 c1, .slice A2 n2 c2] 25))
  by_cases hg : 80 < n1
  · have HD := hide_ (decide_eq_true hg)
    go_enter Try.func7, Try.ntmps7
    go_wp2
    go_ret
    exact ⟨ret_bool9 (by simp), HB.out⟩
  · have HD := hide_ (decide_eq_false hg)
    have hg' : decide ((80 : Int) < (n1 : Int)) = false := by simp; omega
    go_enter Try.func7, Try.ntmps7
    go_wp2
    go_ret
    exact ⟨ret_bool9 (by rw [HD.out]; simp; omega), HB.out⟩

theorem ofM_single (x key : UInt8) : ofM [x] key = [x] := by
  have hp : (ofM [x] key).Perm [x] := nub_perm (ofM_nodup _ _) (by simp) fun y => by
    constructor
    · exact fun h => ofM_sub h
    · intro h
      rw [List.mem_singleton] at h
      subst h
      have h1 := ofM_pos key (show 0 < ([y] : List UInt8).length from Nat.one_pos)
      obtain ⟨z, hz⟩ := List.exists_mem_of_length_pos h1
      have h2 := ofM_sub hz
      rw [List.mem_singleton] at h2
      rw [h2] at hz
      exact hz
  exact List.perm_singleton.1 hp
set_option maxRecDepth 100000 in
theorem awake_may : mayC 0 [] [3] = true := by decide +kernel
set_option maxRecDepth 100000 in
theorem awake_quo : quoC 0 [] [3] 1 8 = true := by
  rw [quoC, awake_may, ringsN, if_neg (by decide), List.all_cons, ofM_single]
  decide +kernel
set_option maxRecDepth 100000 in
theorem awake_all : allC 0 [] [3] 1 8 = true := by
  rw [allC, awake_may, ringsN, if_neg (by decide), List.all_cons, ofM_single]
  decide +kernel
set_option maxRecDepth 100000 in
theorem awake_not : quoC 0 [] [3] 1 7 = false := by
  rw [quoC, awake_may, ringsN, if_neg (by decide), List.all_cons, ofM_single]
  decide +kernel

set_option maxRecDepth 100000 in
theorem awake10_any (w : World) : Calls Try.prog 8 #[] w fun e w' => e = .returned (.bool true) ∧ Below w.heap.size w w' := by
  have HQ := hide_ (fun (u : World) (A : Option Addr) (c : Nat) (h : Sees u u.heap.size A (bv [3])) => Quorum_any 0 ⟨none, 0, []⟩ ⟨A, c, [3]⟩ 1 8 u.heap.size u ⟨by show 0 ≤ 100; omega, Sees.empty _ _ _⟩ ⟨by show 1 ≤ 100; omega, h⟩ (Nat.le_refl _) (by omega))
  have HN := hide_ (fun (u : World) (A : Option Addr) (c : Nat) (h : Sees u u.heap.size A (bv [3])) => Quorum_any 0 ⟨none, 0, []⟩ ⟨A, c, [3]⟩ 1 7 u.heap.size u ⟨by show 0 ≤ 100; omega, Sees.empty _ _ _⟩ ⟨by show 1 ≤ 100; omega, h⟩ (Nat.le_refl _) (by omega))
  have HA := hide_ (fun (u : World) (A : Option Addr) (c : Nat) (h : Sees u u.heap.size A (bv [3])) => All_any 0 ⟨none, 0, []⟩ ⟨A, c, [3]⟩ 1 8 u.heap.size u ⟨by show 0 ≤ 100; omega, Sees.empty _ _ _⟩ ⟨by show 1 ≤ 100; omega, h⟩ (Nat.le_refl _) (by omega))
  simp only [cfV, NdM.v, awake_quo, awake_all, awake_not, List.length_cons, List.length_nil, Nat.zero_add, Int.natCast_zero] at HQ HN HA
  have HS := hide_ (show ∀ u, Below ((w.alloc (.cells #[.int .u8 3] 5)).alloc (.cells #[.int .u64 0, .slice none 0 0, .slice (some ⟨w.heap.size, 0, none⟩) 1 1] 25)).heap.size ((w.alloc (.cells #[.int .u8 3] 5)).alloc (.cells #[.int .u64 0, .slice none 0 0, .slice (some ⟨w.heap.size, 0, none⟩) 1 1] 25)) u →
      (Sees u u.heap.size (some ⟨w.heap.size, 0, none⟩) (bv [3])) ∧ BoxAt u (w.heap.size + 1) #[.int .u64 0, .slice none 0 0, .slice (some ⟨w.heap.size, 0, none⟩) 1 1] 25 from fun u hu => by
    have h1 := sees_box w #[.int .u8 3] 5 (bv [3]) rfl
    have h2 := (h1.below ((Below.refl (w.heap.size + 1) _).alloc (by simp) (.cells #[.int .u64 0, .slice none 0 0, .slice (some ⟨w.heap.size, 0, none⟩) 1 1] 25)))
    have h3 := BoxAt.new (w.alloc (.cells #[.int .u8 3] 5)) #[.int .u64 0, .slice none 0 0, .slice (some ⟨w.heap.size, 0, none⟩) 1 1] 25
    rw [show (w.alloc (.cells #[.int .u8 3] 5)).heap.size = w.heap.size + 1 by simp] at h3
    refine ⟨((h2.more ?_).below hu).more hu.size, h3.below hu⟩
    simp)
  have HB0 := hide_ (((Below.refl w.heap.size w).alloc (Nat.le_refl _) (.cells #[.int .u8 3] 5)).alloc (by simp) (.cells #[.int .u64 0, .slice none 0 0, .slice (some ⟨w.heap.size, 0, none⟩) 1 1] 25))
  obtain ⟨W0, hW0⟩ : ∃ W0, (w.alloc (.cells #[.int .u8 3] 5)).alloc (.cells #[.int .u64 0, .slice none 0 0, .slice (some ⟨w.heap.size, 0, none⟩) 1 1] 25) = W0 := ⟨_, rfl⟩
  have hW0s : W0.heap.size = w.heap.size + 2 := by rw [← hW0]; simp
  rw [hW0] at HS HB0
  have HW0 := hide_ hW0
  have HD0 := hide_ (Below.refl W0.heap.size W0)
  clear hW0
  go_enter Try.func8, Try.ntmps8
  go_upto_region 2 with fail
  rw [HW0.out]
  have hb0 := (HS.out _ HD0.out).2
  have c0 := hb0.cell 0
  have c1 := hb0.cell 1
  have c2 := hb0.cell 2
  simp at c0 c1 c2
  have hl0 := hb0.lt
  clear hb0
  go_wp2_with fail
  refine (HQ.out _ _ _ (HS.out _ HD0.out).1).mono ?_
  rintro e w1 ⟨rfl, hb1⟩
  have HD1 := hide_ (HD0.out.trans (hb1.mono HD0.out.size))
  have hb0 := (HS.out _ HD1.out).2
  clear c0 c1 c2
  have c0 := hb0.cell 0
  have c1 := hb0.cell 1
  have c2 := hb0.cell 2
  simp at c0 c1 c2
  have hl1 := hb0.lt
  clear hb0 hb1
  go_wp2_with fail
  refine (HA.out _ _ _ (HS.out _ HD1.out).1).mono ?_
  rintro e w2 ⟨rfl, hb2⟩
  have HD2 := hide_ (HD1.out.trans (hb2.mono HD1.out.size))
  have hb0 := (HS.out _ HD2.out).2
  clear c0 c1 c2
  have c0 := hb0.cell 0
  have c1 := hb0.cell 1
  have c2 := hb0.cell 2
  simp at c0 c1 c2
  have hl2 := hb0.lt
  clear hb0 hb2
  go_wp2_with fail
  refine (HN.out _ _ _ (HS.out _ HD2.out).1).mono ?_
  rintro e w3 ⟨rfl, hb3⟩
  have HD3 := hide_ (HD2.out.trans (hb3.mono HD2.out.size))
  go_wp2
  go_ret
  exact ⟨rfl, HB0.out.trans (HD3.out.mono HB0.out.size)⟩
end Go.Proofs.Ytlcgihdphdkhpaa
