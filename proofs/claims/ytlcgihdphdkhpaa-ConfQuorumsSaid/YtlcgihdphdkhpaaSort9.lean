/-
  Points of one's own, sorted by the library: the contract of slices.SortFunc with ring's compare.
-/
import Derived.Test.YtlcgihdphdkhpaaRing1
import Derived.Test.YtlcgihdphdkhpaaSort
import Derived.Shelf.SlSortCmp.NoneTotal
namespace Go.Proofs.Ytlcgihdphdkhpaa
open Go.RowKit Go.Sort Go.Shelf Go.Lib

theorem flat_pv (l : List Pt) : flatK cellsP 2 l.toArray = (pv l).toArray := by
  refine ext_get! (by simp [pv_length]) fun t ht => ?_
  have ht' : t < l.length * 2 := by simpa using ht
  rw [get_flatK _ _ _ t (by simpa using ht')]
  have hk : t / 2 < l.length := by omega
  have hg := pv_get l (t / 2) hk
  have e1 : l.toArray[t / 2]! = l[t / 2] := by simp [hk]
  rw [e1]
  rcases (show t = t / 2 * 2 ∨ t = t / 2 * 2 + 1 by omega) with e | e
  · have e2 : t % 2 = 0 := by omega
    have hq : (pv l).toArray[t]! = .int .u64 (l[t / 2].1 : Nat) := by
      rw [getElem!_def, List.getElem?_toArray, show (pv l)[t]? = (pv l)[t / 2 * 2]? from congrArg _ e, hg.1]
    rw [hq, e2]
    rfl
  · have e2 : t % 2 = 1 := by omega
    have hq : (pv l).toArray[t]! = .int .u8 (l[t / 2].2.toNat : Int) := by
      rw [getElem!_def, List.getElem?_toArray, show (pv l)[t]? = (pv l)[t / 2 * 2 + 1]? from congrArg _ e, hg.2]
    rw [hq, e2]
    rfl

section
variable {w : World} {g n : Nat} {os : Array Obj} {e : TypeId}
theorem heap_sorted9 {cur : Array Value} {fr : Nat × Nat} (d : Array Value) (hb : w.heap[g]? = some (.cells cur e fr)) :
    (grow (putRow id (Sort.ahead w n) g 0 d) os).heap[g]? = some (.cells (putCells id 0 d cur) e fr) := by
  have hg : g < w.heap.size := (Array.getElem?_eq_some_iff.1 hb).1
  rw [heap_grow_old _ _ (by simpa using hg)]
  simp [putRow, mapBlock, Sort.ahead, Array.getElem?_modify, hb, onCells]
theorem grownBy_sorted9 (d : Array Value) : w.grownBy (grow (putRow id (Sort.ahead w n) g 0 d) os) (some g) := by
  refine ⟨rfl, rfl, rfl, by simp, fun k hk hne => ?_⟩
  rw [heap_grow_old _ _ (by simpa using hk)]
  have : g ≠ k := fun e => hne (by rw [e])
  simp [putRow, mapBlock, Sort.ahead, Array.getElem?_modify, this]
theorem take_putCells9 (cur : Array Value) (xs : List Value) (h : xs.length ≤ cur.size) : (putCells id 0 xs.toArray cur).toList.take xs.length = xs := by
  apply List.ext_getElem?
  intro j
  by_cases hj : j < xs.length
  · rw [List.getElem?_take_of_lt hj, Array.getElem?_toList]
    simp [putCells, hj, show j < cur.size by omega]
  · rw [List.getElem?_take_eq_none (by omega), List.getElem?_eq_none (by omega)]
theorem holds_own9 {cur : Array Value} {xs : List Value} (hb : w.heap[g]? = some (.cells cur e (0, 0))) (ht : cur.toList.take xs.length = xs) : Holds id w g 0 xs.toArray := by
  intro j hj
  have hj' : j < xs.length := by simpa using hj
  refine ⟨?_, by simp [World.frozen?, hb]⟩
  have h1 : (cur.toList.take xs.length)[j]? = xs[j]? := by rw [ht]
  rw [List.getElem?_take_of_lt hj'] at h1
  simp only [World.cell?, hb, Nat.zero_add]
  simp only [Option.isSome_none, Bool.false_eq_true, if_false]
  rw [← Array.getElem?_toList, h1]
  simp [hj']
end

theorem ltOf_cmpP : ltOf cmpP = ptLt := by
  funext a b
  exact cmpP_lt a b
theorem swo_ptLt : SWO (ltOf cmpP) where
  irrefl x := by rw [ltOf_cmpP]; simp [ptLt]
  trans x y z h1 h2 := by
    rw [ltOf_cmpP, ptLt_iff] at *
    omega
  ntrans x y z h1 h2 := by
    rw [ltOf_cmpP, ← Bool.not_eq_true, ptLt_iff] at *
    omega
theorem tot_ptLt (x y : Pt) (h1 : ltOf cmpP x y = false) (h2 : ltOf cmpP y x = false) : x = y := by
  rw [ltOf_cmpP] at h1 h2
  exact ptLe_anti (by simp [ptLe, h2]) (by simp [ptLe, h1])
theorem merge_srt (l : List Pt) : (l.mergeSort fun x y => !(ltOf cmpP) y x) = srt l := by
  rw [ltOf_cmpP]
  rfl

theorem sortPts_any (l : List Pt) (base n c : Nat) (A : Option Addr) (w : World) (hl : l.length = n) (h : w.ownsRow base 65 2 (.slice A n c) n (pv l)) (hb : base ≤ w.heap.size) (hn : n ≤ 1000000) :
    Calls Try.prog 57 #[.slice A n c, .func (.func 58) #[] #[]] w fun e w' =>
      e = .returned (.tuple #[]) ∧ w'.ownsRow base 65 2 (.slice A n c) n (pv (srt l)) ∧ Below base w w' := by
  subst hl
  by_cases h0 : l.length = 0
  · obtain rfl : l = [] := List.eq_nil_of_length_eq_zero h0
    refine (AnyF.slices_SortFunc_none { Try.sortPt with } A c _ w).mono ?_
    rintro e w' ⟨rfl, rfl⟩
    exact ⟨rfl, by rw [show srt [] = [] from List.eq_nil_of_length_eq_zero (srt_perm []).length_eq]; exact h, Below.refl _ _⟩
  · obtain ⟨hlen, hx⟩ := h
    rcases hx with ⟨hv, _⟩ | ⟨g, cap, cur, hv, hbase, hg, hnc, hcm, hcs, htake⟩
    · injection hv
      omega
    · injection hv with hA _ hc
      subst hA hc
      have hpl : (pv l).length = l.length * 2 := pv_length l
      have hH : HoldsK cellsP 2 w g 0 l.toArray := by
        unfold HoldsK
        rw [flat_pv]
        exact holds_own9 hg (by rw [hpl]; exact htake)
      have hcmp : CmpLays Try.prog 58 #[] cellsP 2 cmpP g 0 l.toArray.size w := fun _ _ _ _ x y => comparePt_any x y _
      have hS := AnyQ.slices_SortFunc_total Try.sortPt 2 Try.isAgg65 Try.sizeOf65 cellsP (fun _ => rfl) (fun x v hv => by simp [cellsP] at hv; rcases hv with rfl | rfl <;> rfl) cmpP swo_ptLt 58 #[] g 0 c l.toArray w
        (enters_of Try.func58 (by kernel_rfl) rfl) hcmp hH (Array.getElem?_eq_some_iff.1 hg).1 (by simp; omega) tot_ptLt
      rw [List.toList_toArray, merge_srt] at hS
      simp only [List.size_toArray] at hS
      refine hS.mono ?_
      rintro e w' ⟨rfl, q, os, rfl⟩
      have hsl : (srt l).length = l.length := (srt_perm l).length_eq
      refine ⟨rfl, ?_, ?_⟩
      · unfold sortWorldK putRowK
        rw [flat_pv]
        refine ⟨by rw [pv_length, hsl], .inr ⟨g, c, _, rfl, hbase, heap_sorted9 _ hg, hnc, hcm, by simp [putCells, hcs], ?_⟩⟩
        have := take_putCells9 cur (pv (srt l)) (by rw [pv_length, hsl, hcs]; omega)
        rwa [pv_length, hsl] at this
      · unfold sortWorldK putRowK
        exact (Below.refl base w).grown (grownBy_sorted9 _) hb (fun k hk => by injection hk with hk; omega)
end Go.Proofs.Ytlcgihdphdkhpaa
