/-
  Contracts of pack's reader: a row; and what is put is what is taken, as plain facts on lists.
-/
import Derived.Test.YtcdllfmdmjignaaRead2
namespace Go.Proofs.Ytcdllfmdmjignaa
open Go.RowKit

/-- a row of at most so many bytes -/
def takeR (most : Int) (l : List UInt8) : (List UInt8 × List UInt8) ⊕ Int :=
  match takeN 0 0 l with
  | .inr er => .inr er
  | .inl (n, t) => if max most 0 < (n : Int) then .inr 4 else if t.length < n then .inr 2 else .inl (t.take n, t.drop n)

/-- what a call leaves that takes a row -/
def TakesR (w : World) (g : Nat) (r : (List UInt8 × List UInt8) ⊕ Int) (e : Ending) (w' : World) : Prop :=
  match r with
  | .inl (row, t) => ∃ A c, Leaves w g (.slice A row.length c) t 0 e w' ∧ w'.ownsRow w.heap.size 5 1 (.slice A row.length c) row.length (bv row)
  | .inr er => Leaves w g (.slice none 0 0) [] er e w'

theorem Rdr.lt {w : World} {g : Nat} {l : List UInt8} {er : Int} (h : Rdr w g l er) : g < w.heap.size := by
  obtain ⟨A, c, hg, _, _⟩ := h
  exact (Array.getElem?_eq_some_iff.1 hg).1
theorem Rdr.below {w w' : World} {g : Nat} {l : List UInt8} {er : Int} (h : Rdr w g l er) (hb : Below w.heap.size w w') : Rdr w' g l er := by
  have hlt := h.lt
  obtain ⟨A, c, hg, hs, hc⟩ := h
  exact ⟨A, c, (hb.block g hlt).trans hg, hs.below (hb.mono (by omega)), hc⟩

theorem copyOf_n (l : List UInt8) (B : Nat) (A : Option Addr) (n c room : Nat) (w : World) (hn : l.length = n) (hs : Sees w B A (bv l)) (hB : B ≤ w.heap.size) (hr : n + room ≤ 281474976710656) :
    Calls Try.prog 21 #[.slice A n c, .int .i64 room] w fun e w' => e = .returned (.slice (some ⟨w.heap.size, 0, none⟩) n (n + room)) ∧
      w'.ownsRow w.heap.size 5 1 (.slice (some ⟨w.heap.size, 0, none⟩) n (n + room)) n (bv l) ∧ Below w.heap.size w w' ∧ w'.heap.size = w.heap.size + 1 := by
  subst hn
  exact copyOf_any l B A c room w hs hB hr

theorem TakesR.mk {w w1 w3 : World} {g n c1 c' : Nat} {t : List UInt8} {A1 A' : Option Addr} (hn : n ≤ t.length) (hg : w1.heap[g]? = some (.cells #[.bool true, .slice A1 t.length c1, .int .i64 0] 46 (0, 0)))
    (hs : Sees w1 g A1 (bv t)) (hc : t.length ≤ c1) (hA : A' = if c1 = n then A1 else A1.map (·.add n)) (hc' : c1 - n = c') (hg1 : w.grownBy w1 (some g)) (hlt : g < w1.heap.size)
    (hown : w3.ownsRow w1.heap.size 5 1 (.slice (some ⟨w1.heap.size, 0, none⟩) n (n + 0)) n (bv (t.take n))) (hb : Below w1.heap.size w1 w3) :
    TakesR w g (.inl (t.take n, t.drop n)) (.returned (.slice (some ⟨w1.heap.size, 0, none⟩) n n)) (w3.setCell ⟨g, 1, none⟩ (.slice A' (t.length - n) c')) := by
  have hl : (t.take n).length = n := by simp; omega
  refine ⟨some ⟨w1.heap.size, 0, none⟩, n, ⟨by rw [hl], Rdr_cut ((hb.block g hlt).trans hg) (hs.below (hb.mono (by omega))) hc hA hn rfl hc', grown_set (grown_below hg1 hb) _ _⟩, ?_⟩
  rw [hl]
  exact own_mono (ownsRow_setCell_below hown (a := ⟨g, 1, none⟩) hlt _) hg1.size

theorem Row_err {g : Nat} {l : List UInt8} {er : Int} {w : World} (x : Value) (h : Rdr w g l er) (her : er ≠ 0) : Calls Try.prog 17 #[.pointer (some ⟨g, 0, none⟩), x] w fun e w' => e = .returned (.slice none 0 0) ∧ w = w' := by
  go_enter Try.func17, Try.ntmps17
  go_wp2_with (first | (go_at_call 23; refine (number_err h her).mono ?_; rintro e w1 ⟨rfl, rfl⟩) | (go_at_call 25; refine (takes_err h her).mono ?_; rintro e w1 ⟨rfl, rfl⟩))
  go_ret
  exact ⟨rfl, rfl⟩

set_option maxRecDepth 100000 in
set_option maxHeartbeats 400000 in
theorem Row_live {g : Nat} {l : List UInt8} {w : World} (x : Int) (h : Rdr w g l 0) (hl : l.length ≤ 281474976710656) (hx1 : -9223372036854775808 ≤ x) (hx2 : x ≤ 9223372036854775807) :
    Calls Try.prog 17 #[.pointer (some ⟨g, 0, none⟩), .int .i64 x] w (TakesR w g (takeR x l)) := by
  rcases ht : takeN 0 0 l with ⟨n, t⟩ | er
  · have hn := takeN_lt l 0 0 (by simp) (by omega) ht
    have htl := takeN_left l 0 0 ht
    by_cases h4 : max x 0 < (n : Int)
    · have hr : takeR x l = .inr 4 := by simp [takeR, ht, h4]
      rw [hr]
      have HT := hide_ ht
      clear hr ht
      go_enter Try.func17, Try.ntmps17
      go_wp2_with fail
      refine (number_live h hl).mono ?_
      rw [HT.out]
      rintro e w1 ⟨rfl, hr1, hg1⟩
      go_wp2_with (first | (go_at_call 25; refine (takes_live hr1).mono ?_; rintro e w2 ⟨rfl, rfl⟩) | (go_at_call 19; refine (Fail_live 4 hr1 (by omega)).mono ?_; rintro e w2 ⟨rfl, hr2, hg2⟩))
      all_goals go_ret
      all_goals exact ⟨rfl, hr2, grown_join hg1 hg2⟩
    · by_cases h2 : t.length < n
      · have hr : takeR x l = .inr 2 := by simp [takeR, ht, h4, h2]
        rw [hr]
        have HT := hide_ ht
        clear hr ht
        go_enter Try.func17, Try.ntmps17
        go_wp2_with fail
        refine (number_live h hl).mono ?_
        rw [HT.out]
        rintro e w1 ⟨rfl, hr1, hg1⟩
        have hr1' := hide_ hr1
        obtain ⟨A1, c1, hgg, hs1, hc1⟩ := hr1
        have k1 : w1.cell? ⟨g, 1, none⟩ = some (.slice A1 t.length c1) := by rw [cell_of_row w1 g 1 _ _ _ hgg]; rfl
        clear hgg
        go_wp2_with (first | (go_at_call 25; refine (takes_live hr1'.out).mono ?_; rintro e w2 ⟨rfl, rfl⟩) | (go_at_call 19; refine (Fail_live 2 hr1'.out (by omega)).mono ?_; rintro e w2 ⟨rfl, hr2, hg2⟩))
        all_goals go_ret
        all_goals exact ⟨rfl, hr2, grown_join hg1 hg2⟩
      · have hr : takeR x l = .inl (t.take n, t.drop n) := by simp [takeR, ht, h4, h2]
        rw [hr]
        have HT := hide_ ht
        clear hr ht
        go_enter Try.func17, Try.ntmps17
        go_wp2_with fail
        refine (number_live h hl).mono ?_
        rw [HT.out]
        rintro e w1 ⟨rfl, hr1, hg1⟩
        have hr1' := hide_ hr1
        obtain ⟨A1, c1, hgg, hs1, hc1⟩ := hr1
        have k1 : w1.cell? ⟨g, 1, none⟩ = some (.slice A1 t.length c1) := by rw [cell_of_row w1 g 1 _ _ _ hgg]; rfl
        have f1 : w1.frozen? ⟨g, 1, none⟩ = false := by simp [World.frozen?, hgg]
        have HG := hide_ hgg
        clear hgg
        go_wp2_with ((go_at_call 25; refine (takes_live hr1'.out).mono ?_; rintro e w2 ⟨rfl, rfl⟩))
        all_goals refine (copyOf_n (t.take n) w1.heap.size A1 n c1 0 w1 (by simp; omega) (by rw [bv_take]; exact (hs1.more (Nat.le_of_lt hr1'.out.lt)).take n) (Nat.le_refl _) (by omega)).mono ?_
        all_goals rintro e w3 ⟨rfl, hown3, hb3, hz3⟩
        all_goals have Z3 := hide_ hz3
        all_goals clear hz3
        all_goals have k3 := (hb3.cell (p := ⟨g, 1, none⟩) hr1'.out.lt).trans k1
        all_goals have f3 := (hb3.frozen (p := ⟨g, 1, none⟩) hr1'.out.lt).trans f1
        all_goals go_wp2
        all_goals go_ret
        all_goals refine TakesR.mk (by omega) HG.out hs1 hc1 ?_ ?_ hg1 hr1'.out.lt hown3 hb3
        all_goals first | (rw [if_pos ‹c1 = n›]; done) | (rw [if_neg ‹¬c1 = n›]; done) | omega
  · have hr : takeR x l = .inr er := by simp [takeR, ht]
    rw [hr]
    have her : er ≠ 0 := by rcases takeN_er l 0 0 ht with rfl | rfl <;> omega
    have HT := hide_ ht
    clear hr ht
    go_enter Try.func17, Try.ntmps17
    go_wp2_with fail
    refine (number_live h hl).mono ?_
    rw [HT.out]
    rintro e w1 ⟨rfl, hr1, hg1⟩
    go_wp2_with (refine (takes_err hr1 her).mono ?_; rintro e w2 ⟨rfl, rfl⟩)
    go_ret
    exact ⟨rfl, hr1, hg1⟩
end Go.Proofs.Ytcdllfmdmjignaa
