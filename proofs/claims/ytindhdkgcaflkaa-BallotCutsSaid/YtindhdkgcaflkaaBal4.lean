/-
  Contract of ballot.Get.
-/
import Derived.Test.YtindhdkgcaflkaaBal3
namespace Go.Proofs.Ytindhdkgcaflkaa
open Go.RowKit

/-- what a call leaves that takes a ballot -/
def TakesB (w : World) (g : Nat) (r : ((Nat × Nat × Nat) × List UInt8) ⊕ Int) (e : Ending) (w' : World) : Prop :=
  match r with
  | .inl ((c, n, l), t) => Leaves w g (.agg #[.int .u64 c, .int .u8 n, .int .u32 l]) t 0 e w'
  | .inr er => Leaves w g (.agg #[.int .u64 0, .int .u8 0, .int .u32 0]) [] er e w'

theorem Rdr.ne {w : World} {g : Nat} {l : List UInt8} {er : Int} (h : Rdr w g l er) : g ≠ w.heap.size := Nat.ne_of_lt h.lt
theorem Rdr.alloc {w : World} {g : Nat} {l : List UInt8} {er : Int} (h : Rdr w g l er) (o : Obj) : Rdr (w.alloc o) g l er := h.below ((Below.refl _ _).alloc (Nat.le_refl _) _)
theorem far_cells {w w' : World} {g b : Nat} {cs : Array Value} {t : TypeId} (hg : w.grownBy w' (some g)) (hb : w.heap[b]? = some (.cells cs t (0, 0))) (hne : g ≠ b) : w'.heap[b]? = some (.cells cs t (0, 0)) :=
  (hg.block b (Array.getElem?_eq_some_iff.1 hb).1 (fun e => by injection e with e; exact hne e.symm)).trans hb

theorem Rdr.far {w : World} {g b i : Nat} {v : Value} {l : List UInt8} {er : Int} (h : Rdr w g l er) (hlt : g < b) : Rdr (w.setCell ⟨b, i, none⟩ v) g l er := by
  obtain ⟨A, c, hg, hs, hc⟩ := h
  exact ⟨A, c, (Below.heap_setCell w ⟨b, i, none⟩ v g (Nat.ne_of_lt hlt)).trans hg, hs.keep fun p hp => World.cell?_of_block (Below.heap_setCell w ⟨b, i, none⟩ v p.block (by simp; omega)), hc⟩
theorem grown_far {w w' : World} {g b i : Nat} {v : Value} (h : w.grownBy w' (some g)) (hb : w.heap.size ≤ b) : w.grownBy (w'.setCell ⟨b, i, none⟩ v) (some g) :=
  ⟨h.os, h.tape, h.output, by simpa [World.setCell] using h.size, fun k hk hne => (Below.heap_setCell w' ⟨b, i, none⟩ v k (by simp; omega)).trans (h.block k hk hne)⟩
theorem grown_first {w w' : World} {g : Nat} {o : Obj} (h : (w.alloc o).grownBy w' (some g)) : w.grownBy w' (some g) := (World.grownBy_alloc w o (some g)).trans h

theorem Num_u64 {g : Nat} {l : List UInt8} {w : World} (h : Rdr w g l 0) (hl : l.length ≤ 281474976710656) : Calls Try.prog 22 #[.pointer (some ⟨g, 0, none⟩), .int .u64 18446744073709551615] w (Takes w g (takeUp 18446744073709551615 l)) := Num_live 18446744073709551615 h hl
theorem Num_u8 {g : Nat} {l : List UInt8} {w : World} (h : Rdr w g l 0) (hl : l.length ≤ 281474976710656) : Calls Try.prog 22 #[.pointer (some ⟨g, 0, none⟩), .int .u64 255] w (Takes w g (takeUp 255 l)) := Num_live 255 h hl
theorem Num_u32 {g : Nat} {l : List UInt8} {w : World} (h : Rdr w g l 0) (hl : l.length ≤ 281474976710656) : Calls Try.prog 22 #[.pointer (some ⟨g, 0, none⟩), .int .u64 4294967295] w (Takes w g (takeUp 4294967295 l)) := Num_live 4294967295 h hl

set_option maxRecDepth 100000 in
theorem Get_live {g : Nat} {l : List UInt8} {w : World} (h : Rdr w g l 0) (hl : l.length ≤ 281474976710656) : Calls Try.prog 13 #[.pointer (some ⟨g, 0, none⟩)] w (TakesB w g (takeB l)) := by
  have hne := h.ne
  have LT := hide_ h.lt
  have h0 := h.alloc (.cells #[.int .u64 0, .int .u8 0, .int .u32 0] 25)
  have hnew := heap_alloc_new w (.cells #[.int .u64 0, .int .u8 0, .int .u32 0] 25)
  have HN := hide_ hnew
  have NE := hide_ hne
  clear h hnew hne
  rcases ht : takeUp 18446744073709551615 l with ⟨c, t⟩ | er
  · obtain ⟨hlt, hc⟩ := takeUp_left ht
    rcases hu : takeUp 255 t with ⟨n, u⟩ | er
    · obtain ⟨hlu, hn⟩ := takeUp_left hu
      rcases hv : takeUp 4294967295 u with ⟨m, v⟩ | er
      · obtain ⟨hlv, hm⟩ := takeUp_left hv
        have hr : takeB l = .inl ((c, n, m), v) := by simp [takeB, ht, hu, hv]
        rw [hr]
        have HT := hide_ ht
        have HU := hide_ hu
        have HV := hide_ hv
        have HC := hide_ hc
        clear hr ht hu hv hc
        go_enter Try.func13, Try.ntmps13
        go_wp2_with fail
        refine (Num_u64 h0 hl).mono ?_
        rw [HT.out]
        rintro e w1 ⟨rfl, hr1, hg1⟩
        go_wp2_with fail
        refine (Num_u8 hr1 (by omega)).mono ?_
        rw [HU.out]
        rintro e w2 ⟨rfl, hr2, hg2⟩
        go_wp2_with fail
        refine (Num_u32 hr2 (by omega)).mono ?_
        rw [HV.out]
        rintro e w3 ⟨rfl, hr3, hg3⟩
        have k3 := far_cells hg3 (far_cells hg2 (far_cells hg1 HN.out NE.out) NE.out) NE.out
        have hg13 := grown_join hg1 (grown_join hg2 hg3)
        have q0 : w3.cell? ⟨w.heap.size, 0, none⟩ = some (.int .u64 0) := by rw [cell_of_row _ _ 0 _ _ _ k3]; rfl
        have q1 : w3.cell? ⟨w.heap.size, 1, none⟩ = some (.int .u8 0) := by rw [cell_of_row _ _ 1 _ _ _ k3]; rfl
        have q2 : w3.cell? ⟨w.heap.size, 2, none⟩ = some (.int .u32 0) := by rw [cell_of_row _ _ 2 _ _ _ k3]; rfl
        have f0 : w3.frozen? ⟨w.heap.size, 0, none⟩ = false := by simp [World.frozen?, k3]
        have f1 : w3.frozen? ⟨w.heap.size, 1, none⟩ = false := by simp [World.frozen?, k3]
        have f2 : w3.frozen? ⟨w.heap.size, 2, none⟩ = false := by simp [World.frozen?, k3]
        have K3 := hide_ k3
        clear k3
        go_wp2_with (refine (failed_live hr3).mono ?_; rintro e w4 ⟨rfl, rfl⟩)
        refine bodyPost_ret (v := .agg #[.int .u64 c, .int .u8 n, .int .u32 m]) (by simp [results, Try.results13, go_sem, q0, q1, q2]) rfl ?_
        exact ⟨rfl, ((hr3.far LT.out).far LT.out).far LT.out, grown_far (grown_far (grown_far (grown_first hg13) (Nat.le_refl _)) (Nat.le_refl _)) (Nat.le_refl _)⟩
      · have her := takeUp_er hv
        have hr : takeB l = .inr er := by simp [takeB, ht, hu, hv]
        rw [hr]
        have HT := hide_ ht
        have HU := hide_ hu
        have HV := hide_ hv
        have h0' : er ≠ 0 := by omega
        have h4' : er ≠ 4 := by omega
        have H0 := hide_ h0'
        have H4 := hide_ h4'
        clear hr her h0' h4' ht hu hv
        go_enter Try.func13, Try.ntmps13
        go_wp2_with fail
        refine (Num_u64 h0 hl).mono ?_
        rw [HT.out]
        rintro e w1 ⟨rfl, hr1, hg1⟩
        go_wp2_with fail
        refine (Num_u8 hr1 (by omega)).mono ?_
        rw [HU.out]
        rintro e w2 ⟨rfl, hr2, hg2⟩
        go_wp2_with fail
        refine (Num_u32 hr2 (by omega)).mono ?_
        rw [HV.out]
        rintro e w3 ⟨rfl, hr3, hg3⟩
        have k3 := far_cells hg3 (far_cells hg2 (far_cells hg1 (HN.out) NE.out) NE.out) NE.out
        have hg13 := grown_join (grown_join (hg1) hg2) hg3
        have q0 : w3.cell? ⟨w.heap.size, 0, none⟩ = some (.int .u64 0) := by rw [cell_of_row _ _ 0 _ _ _ k3]; rfl
        have q1 : w3.cell? ⟨w.heap.size, 1, none⟩ = some (.int .u8 0) := by rw [cell_of_row _ _ 1 _ _ _ k3]; rfl
        have q2 : w3.cell? ⟨w.heap.size, 2, none⟩ = some (.int .u32 0) := by rw [cell_of_row _ _ 2 _ _ _ k3]; rfl
        have f0 : w3.frozen? ⟨w.heap.size, 0, none⟩ = false := by simp [World.frozen?, k3]
        have f1 : w3.frozen? ⟨w.heap.size, 1, none⟩ = false := by simp [World.frozen?, k3]
        have f2 : w3.frozen? ⟨w.heap.size, 2, none⟩ = false := by simp [World.frozen?, k3]
        have K3 := hide_ k3
        clear k3
        go_wp2_with (refine (failed_err hr3 H0.out H4.out).mono ?_; rintro e w4 ⟨rfl, rfl⟩)
        refine bodyPost_ret (v := .agg #[.int .u64 0, .int .u8 0, .int .u32 0]) (by simp [results, Try.results13, go_sem, q0, q1, q2]) rfl ?_
        exact ⟨rfl, ((hr3.far LT.out).far LT.out).far LT.out, grown_far (grown_far (grown_far (grown_first hg13) (Nat.le_refl _)) (Nat.le_refl _)) (Nat.le_refl _)⟩
    · have her := takeUp_er hu
      have hr : takeB l = .inr er := by simp [takeB, ht, hu]
      rw [hr]
      have HT := hide_ ht
      have HU := hide_ hu
      have h0' : er ≠ 0 := by omega
      have h4' : er ≠ 4 := by omega
      have H0 := hide_ h0'
      have H4 := hide_ h4'
      clear hr her h0' h4' ht hu
      go_enter Try.func13, Try.ntmps13
      go_wp2_with fail
      refine (Num_u64 h0 hl).mono ?_
      rw [HT.out]
      rintro e w1 ⟨rfl, hr1, hg1⟩
      go_wp2_with fail
      refine (Num_u8 hr1 (by omega)).mono ?_
      rw [HU.out]
      rintro e w2 ⟨rfl, hr2, hg2⟩
      go_wp2_with fail
      refine (Num_err 4294967295 hr2 H0.out).mono ?_
      rintro e w3 ⟨rfl, rfl⟩
      have k3 := far_cells hg2 (far_cells hg1 (HN.out) NE.out) NE.out
      have hg13 := grown_join (hg1) hg2
      have q0 : w2.cell? ⟨w.heap.size, 0, none⟩ = some (.int .u64 0) := by rw [cell_of_row _ _ 0 _ _ _ k3]; rfl
      have q1 : w2.cell? ⟨w.heap.size, 1, none⟩ = some (.int .u8 0) := by rw [cell_of_row _ _ 1 _ _ _ k3]; rfl
      have q2 : w2.cell? ⟨w.heap.size, 2, none⟩ = some (.int .u32 0) := by rw [cell_of_row _ _ 2 _ _ _ k3]; rfl
      have f0 : w2.frozen? ⟨w.heap.size, 0, none⟩ = false := by simp [World.frozen?, k3]
      have f1 : w2.frozen? ⟨w.heap.size, 1, none⟩ = false := by simp [World.frozen?, k3]
      have f2 : w2.frozen? ⟨w.heap.size, 2, none⟩ = false := by simp [World.frozen?, k3]
      have K3 := hide_ k3
      clear k3
      go_wp2_with (refine (failed_err hr2 H0.out H4.out).mono ?_; rintro e w4 ⟨rfl, rfl⟩)
      refine bodyPost_ret (v := .agg #[.int .u64 0, .int .u8 0, .int .u32 0]) (by simp [results, Try.results13, go_sem, q0, q1, q2]) rfl ?_
      exact ⟨rfl, ((hr2.far LT.out).far LT.out).far LT.out, grown_far (grown_far (grown_far (grown_first hg13) (Nat.le_refl _)) (Nat.le_refl _)) (Nat.le_refl _)⟩
  · have her := takeUp_er ht
    have hr : takeB l = .inr er := by simp [takeB, ht]
    rw [hr]
    have HT := hide_ ht
    have h0' : er ≠ 0 := by omega
    have h4' : er ≠ 4 := by omega
    have H0 := hide_ h0'
    have H4 := hide_ h4'
    clear hr her h0' h4' ht
    go_enter Try.func13, Try.ntmps13
    go_wp2_with fail
    refine (Num_u64 h0 hl).mono ?_
    rw [HT.out]
    rintro e w1 ⟨rfl, hr1, hg1⟩
    go_wp2_with fail
    refine (Num_err 255 hr1 H0.out).mono ?_
    rintro e w2 ⟨rfl, rfl⟩
    go_wp2_with fail
    refine (Num_err 4294967295 hr1 H0.out).mono ?_
    rintro e w3 ⟨rfl, rfl⟩
    have k3 := far_cells hg1 (HN.out) NE.out
    have hg13 := hg1
    have q0 : w1.cell? ⟨w.heap.size, 0, none⟩ = some (.int .u64 0) := by rw [cell_of_row _ _ 0 _ _ _ k3]; rfl
    have q1 : w1.cell? ⟨w.heap.size, 1, none⟩ = some (.int .u8 0) := by rw [cell_of_row _ _ 1 _ _ _ k3]; rfl
    have q2 : w1.cell? ⟨w.heap.size, 2, none⟩ = some (.int .u32 0) := by rw [cell_of_row _ _ 2 _ _ _ k3]; rfl
    have f0 : w1.frozen? ⟨w.heap.size, 0, none⟩ = false := by simp [World.frozen?, k3]
    have f1 : w1.frozen? ⟨w.heap.size, 1, none⟩ = false := by simp [World.frozen?, k3]
    have f2 : w1.frozen? ⟨w.heap.size, 2, none⟩ = false := by simp [World.frozen?, k3]
    have K3 := hide_ k3
    clear k3
    go_wp2_with (refine (failed_err hr1 H0.out H4.out).mono ?_; rintro e w4 ⟨rfl, rfl⟩)
    refine bodyPost_ret (v := .agg #[.int .u64 0, .int .u8 0, .int .u32 0]) (by simp [results, Try.results13, go_sem, q0, q1, q2]) rfl ?_
    exact ⟨rfl, ((hr1.far LT.out).far LT.out).far LT.out, grown_far (grown_far (grown_far (grown_first hg13) (Nat.le_refl _)) (Nat.le_refl _)) (Nat.le_refl _)⟩
end Go.Proofs.Ytindhdkgcaflkaa
