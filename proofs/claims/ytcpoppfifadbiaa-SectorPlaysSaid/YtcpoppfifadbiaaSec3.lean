/-
  Contract of the disk's lasting: a sector's row that stays, which is laid where there is none.
-/
import Derived.Test.YtcpoppfifadbiaaSec2
namespace Go.Proofs.Ytcpoppfifadbiaa
open Go.RowKit

/-- zeros in memory -/
def zs12 (n : Nat) : Array Value := madeCells (Value.int .u8 0).cells (n * 1)
theorem zs12_bv (n : Nat) : (zs12 n).toList = bv (List.replicate n 0) := by
  unfold zs12 madeCells bv
  simp [Value.cells, Nat.mod_one, List.map_const']
theorem zs12_size (n : Nat) : (zs12 n).size = n := by
  have := congrArg List.length (zs12_bv n)
  simpa [bv_length] using this
theorem make12 (n : Nat) (hn : n ≤ 1000000) (u : World) : (Instr.makeSlice 38 (.int .i64 (n : Int)) (.int .i64 (n : Int))).run Try.prog u = .ok (.slice (some ⟨u.heap.size, 0, none⟩) n n) (u.alloc (.cells (zs12 n) 5)) := by
  obtain ⟨i0, hi, hz0, hz1, hz2⟩ := info_parts u8_info
  have h := run_make (P := Try.prog) u 38 5 i0 (.int .u8 0) Try.underlying38 hi hz0 .i64 .i64 (n : Int) (n : Int) (by omega) (by omega) (by rw [hz2]; omega) (by omega)
  rw [h, hz1]
  simp [zs12]
theorem row_new12 (u : World) (n : Nat) : RowIs (u.alloc (.cells (zs12 n) 5)) u.heap.size (List.replicate n 0) :=
  ⟨_, heap_alloc_new u _, by rw [zs12_bv, List.take_of_length_le]; simp [bv]⟩

section
variable {w w' : World} {L : Lay} {D : Dk}
/-- a row more stays -/
theorem DiskAt.more (h : DiskAt w L D) {i g : Nat} (hi : i < D.c) (hK : L.K i = none) (hm : MapIs w' L.m D.n D.c (upd12 L.K i g)) (hb : ∀ k, k < w.heap.size → k ≠ L.m → w'.heap[k]? = w.heap[k]?) (hg : w.heap.size ≤ g) (hr : RowIs w' g (List.replicate D.n 0)) :
    DiskAt w' { L with K := upd12 L.K i g } D := by
  have hbox := h.box
  unfold BoxAt at hbox
  obtain ⟨es, k, em⟩ := h.map.is
  have hn : ∀ j g', L.K j = some g' → g' ≠ g := fun j g' e => by
    have := (h.keep j g' e).2.lt
    omega
  exact {
    box := (hb _ h.box.lt (map_kind hbox em)).trans h.box
    map := hm
    row := ownsRow_stay h.row fun g o s e => by
      obtain ⟨cur, hx⟩ := h.kA e
      exact hb g (Array.getElem?_eq_some_iff.1 hx).1 (map_kind hx em)
    len := h.len
    keep := fun j g' e => by
      simp only [upd12] at e
      split at e
      · rename_i ej
        subst ej
        injection e with e
        subst e
        rw [h.zero j hK]
        exact ⟨hi, hr⟩
      · obtain ⟨cur, hx⟩ := h.kK e
        exact ⟨(h.keep j g' e).1, (h.keep j g' e).2.stay12 (hb _ (h.keep j g' e).2.lt (map_kind hx em))⟩
    zero := fun j e => by
      simp only [upd12] at e
      split at e
      · cases e
      · exact h.zero j e
    inj := fun j1 j2 g' e1 e2 => by
      simp only [upd12] at e1 e2
      split at e1
      · split at e2
        · omega
        · injection e1 with e1
          exact absurd e1.symm (hn _ _ e2)
      · split at e2
        · injection e2 with e2
          exact absurd e2.symm (hn _ _ e1)
        · exact h.inj _ _ _ e1 e2
    wt := fun j p q e1 e2 => by
      obtain ⟨cur, hx⟩ := h.kG (List.mem_of_getElem? e1)
      have hlt := (h.wt j p q e1 e2).1.lt
      refine ⟨(h.wt j p q e1 e2).1.stay12 (hb _ hlt (map_kind hx em)), (h.wt j p q e1 e2).2.1, fun i' e => ?_⟩
      simp only [upd12] at e
      split at e
      · injection e with e
        omega
      · exact (h.wt j p q e1 e2).2.2 i' e
    ok := h.ok }

/-- what 'lasting' leaves -/
def Lasts (L : Lay) (D : Dk) (i : Nat) (w : World) (e : Ending) (w' : World) : Prop :=
  ∃ K' g, e = .returned (.slice (some ⟨g, 0, none⟩) D.n D.n) ∧ K' i = some g ∧ DiskAt w' { L with K := K' } D ∧ Chg (fun k => k = L.m) w w' ∧
    (∀ k, w.heap.size ≤ k → w.heap[k]? = none) ∧ ∀ j g', K' j = some g' → L.K j = some g' ∨ w.heap.size ≤ g'

theorem lasting_any (h : DiskAt w L D) (i : Nat) (hi : i < D.c) : Calls Try.prog 59 #[.pointer (some ⟨L.b, 0, none⟩), .int .i64 (i : Int)] w (Lasts L D i w) := by
  have H := hide_ h
  have c0 := h.c0
  have c2 := h.c2
  have hi63 : i < 2 ^ 63 := by
    have := h.ok.c2
    omega
  have hlook := h.map.look i hi63
  cases hK : L.K i with
  | some g =>
    rw [at12, hK] at hlook
    simp only [Option.isSome_some] at hlook
    have HK := hide_ hK
    clear h hK hi63
    have HI := hide_ hi
    clear hi
    go_enter Try.func59, Try.ntmps59
    go_wp2
    go_ret
    exact ⟨L.K, g, rfl, HK.out, H.out, Chg.refl _ _, fun k hk => Array.getElem?_eq_none hk, fun j g' e => .inl e⟩
  | none =>
    rw [at12, hK] at hlook
    simp only [Option.isSome_none] at hlook
    have hmk := make12 D.n (by have := h.ok.n2; omega)
    have hm1 : MapIs (w.alloc (.cells (zs12 D.n) 5)) L.m D.n D.c L.K := h.map.stay (Below.heap_alloc _ _ _ h.map.lt)
    obtain ⟨w2, hst, hm2, hg2, hs2⟩ := hm1.store i w.heap.size hi (by have := h.ok.c2; omega) hK
    have HK := hide_ hK
    have HM := hide_ hm2
    have HG := hide_ hg2
    have HS := hide_ hs2
    have hb0 := h.box.lt
    have e0 : w2.cell? ⟨L.b, 0, none⟩ = some (.int .i64 (D.n : Int)) := by
      rw [World.cell?_of_block (w := w.alloc (.cells (zs12 D.n) 5)) (w' := w2) (a := ⟨L.b, 0, none⟩) (hg2.block _ (by simp; omega) (by
        intro e
        injection e with e
        obtain ⟨es, k, em⟩ := h.map.is
        exact map_kind h.box em e))]
      rw [World.cell?_of_block (w := w) (w' := w.alloc _) (a := ⟨L.b, 0, none⟩) (Below.heap_alloc _ _ _ hb0)]
      exact c0
    have HI := hide_ hi
    clear h hK hi63 hm1 hm2 hg2 hs2 hi e0
    go_enter Try.func59, Try.ntmps59
    go_wp2
    go_ret
    have hb : ∀ k, k < w.heap.size → k ≠ L.m → w2.heap[k]? = w.heap[k]? := fun k hk hne =>
      (HG.out.block k (by simp; omega) (fun e => by injection e with e; exact hne e)).trans (Below.heap_alloc _ _ _ hk)
    refine ⟨_, w.heap.size, rfl, by simp [upd12], H.out.more HI.out HK.out HM.out hb (Nat.le_refl _) ?_, ⟨HG.out.os, HG.out.tape, HG.out.output, by rw [HS.out]; simp, fun k hk hne => hb k hk hne⟩, fun k hk => Array.getElem?_eq_none hk, fun j g' e => ?_⟩
    · refine (row_new12 w D.n).stay12 (HG.out.block _ (by simp) (fun e => ?_))
      injection e with e
      have := H.out.map.lt
      omega
    · simp only [upd12] at e
      split at e
      · injection e with e
        exact .inr (by omega)
      · exact .inl e
end
end Go.Proofs.Ytcpoppfifadbiaa
