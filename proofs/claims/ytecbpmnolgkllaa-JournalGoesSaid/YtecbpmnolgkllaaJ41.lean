/-
  Texts of this claim put together: Jn8, Range13.
-/
import Derived.Test.YtecbpmnolgkllaaJ40
/-
  Contracts of the journal's small functions, and of write.
-/
namespace Go.Proofs.Ytecbpmnolgkllaa
open Go.RowKit

/-- a journal's cells -/
def jcs (bc t g k u : Nat) : Array Value := #[.pointer (some ⟨bc, 0, none⟩), .int .u64 (t : Int), .int .u64 (g : Int), .int .u64 (k : Int), .int .i64 (u : Int), .bool false]
/-- a journal's box beside its disk -/
structure JBox (w : World) (L : Lay) (D : Dk) (jb t g k u : Nat) : Prop where
  d : DiskAt w L D
  x : BoxAt w jb (jcs L.b t g k u) 79
  h : ¬ L.has jb
section
variable {w w' : World} {L : Lay} {D : Dk} {jb t g k u : Nat}
theorem JBox.below (h : JBox w L D jb t g k u) (hb : Below w.heap.size w w') : JBox w' L D jb t g k u := ⟨h.d.below hb, h.x.below hb, h.h⟩
theorem JBox.cells (h : JBox w L D jb t g k u) : w.cell? ⟨jb, 0, none⟩ = some (.pointer (some ⟨L.b, 0, none⟩)) ∧ w.cell? ⟨jb, 1, none⟩ = some (.int .u64 (t : Int)) ∧ w.cell? ⟨jb, 2, none⟩ = some (.int .u64 (g : Int)) ∧ w.cell? ⟨jb, 3, none⟩ = some (.int .u64 (k : Int)) ∧ w.cell? ⟨jb, 4, none⟩ = some (.int .i64 (u : Int)) ∧ w.cell? ⟨jb, 5, none⟩ = some (.bool false) :=
  ⟨h.x.cell 0, h.x.cell 1, h.x.cell 2, h.x.cell 3, h.x.cell 4, h.x.cell 5⟩

theorem area_any (h : JBox w L D jb t g k u) (h6 : 6 ≤ D.c) : Calls Try.prog 33 #[.pointer (some ⟨jb, 0, none⟩)] w fun e w' => e = .returned (.int .i64 (areaN D.c : Int)) ∧ w = w' := by
  obtain ⟨c0, _⟩ := h.cells
  have hcc := h.d.ok.c2
  have HC := hide_ (Count_any h.d)
  obtain ⟨c, hc⟩ : ∃ c, D.c = c := ⟨_, rfl⟩
  obtain ⟨q, hq⟩ : ∃ q, areaN c = q := ⟨_, rfl⟩
  rw [hc] at HC hcc h6 ⊢
  have hqq : ((c : Int) - 2) / 2 = (q : Int) := by
    unfold areaN at hq
    omega
  have hq9 : q ≤ 2047 := by
    unfold areaN at hq
    omega
  rw [hq]
  clear h hc hq
  go_enter Try.func33, Try.ntmps33
  go_wp2_with (go_at_call 23; refine HC.out.mono ?_; rintro _ _ ⟨rfl, rfl⟩)
  refine bodyPost_ret (v := .int .i64 (q : Int)) (by simp [results, Try.results33, go_sem]; try omega) rfl ?_
  exact ⟨rfl, rfl⟩

theorem front_any (h : JBox w L D jb t g k u) (h6 : 6 ≤ D.c) (x : Nat) (hx : x ≤ 100000) : Calls Try.prog 51 #[.pointer (some ⟨jb, 0, none⟩), .int .u64 (x : Int)] w fun e w' => e = .returned (.int .i64 (frontN D.c x : Int)) ∧ w = w' := by
  have HA := hide_ (area_any h h6)
  have hcc := h.d.ok.c2
  have hq9 : areaN D.c ≤ 2047 := by unfold areaN; omega
  unfold frontN
  obtain ⟨q, hq⟩ : ∃ q, areaN D.c = q := ⟨_, rfl⟩
  rw [hq] at HA hq9 ⊢
  have h2 : x % 2 = 0 ∨ x % 2 = 1 := by omega
  rcases h2 with e | e
  · have e1 : (x : Int) % 2 = 0 := by omega
    rw [e]
    clear h hcc hq e
    go_enter Try.func51, Try.ntmps51
    go_wp2_with (go_at_call 33; refine HA.out.mono ?_; rintro _ _ ⟨rfl, rfl⟩)
    refine bodyPost_ret (v := .int .i64 ((2 + 0 * q : Nat) : Int)) (by simp [results, Try.results51, go_sem]; try omega) rfl ?_
    exact ⟨rfl, rfl⟩
  · have e1 : (x : Int) % 2 = 1 := by omega
    rw [e]
    clear h hcc hq e
    go_enter Try.func51, Try.ntmps51
    go_wp2_with (go_at_call 33; refine HA.out.mono ?_; rintro _ _ ⟨rfl, rfl⟩)
    refine bodyPost_ret (v := .int .i64 ((2 + 1 * q : Nat) : Int)) (by simp [results, Try.results51, go_sem]; try omega) rfl ?_
    exact ⟨rfl, rfl⟩

theorem jNone_any (h : JBox w L D jb t g k u) : Calls Try.prog 35 #[.pointer (some ⟨jb, 0, none⟩)] w fun e w' => e = .returned (.bool false) ∧ w = w' := by
  obtain ⟨c0, _⟩ := h.cells
  clear h
  go_enter Try.func35, Try.ntmps35
  go_wp2
  go_ret
  exact ⟨rfl, rfl⟩
theorem jAnswers_any (h : JBox w L D jb t g k u) : Calls Try.prog 27 #[.pointer (some ⟨jb, 0, none⟩)] w fun e w' => e = .returned (.int .i64 0) ∧ w = w' := by
  obtain ⟨_, _, _, _, _, c5⟩ := h.cells
  have HN := hide_ (jNone_any h)
  clear h
  go_enter Try.func27, Try.ntmps27
  go_wp2_with (go_at_call 35; refine HN.out.mono ?_; rintro _ _ ⟨rfl, rfl⟩)
  go_ret
  exact ⟨rfl, rfl⟩
theorem Room_any (h : JBox w L D jb t g k u) (h6 : 6 ≤ D.c) (hu : u ≤ areaN D.c) : Calls Try.prog 11 #[.pointer (some ⟨jb, 0, none⟩)] w fun e w' => e = .returned (.int .i64 ((areaN D.c - u : Nat) : Int)) ∧ Below w.heap.size w w' := by
  obtain ⟨_, _, _, _, c4, _⟩ := h.cells
  have HN := hide_ (jNone_any h)
  have HA := hide_ (fun (v : World) (hv : ∃ q, v = w.drewN q) => show Calls Try.prog 33 #[.pointer (some ⟨jb, 0, none⟩)] v fun e w' => e = .returned (.int .i64 (areaN D.c : Int)) ∧ w' = v from by
    obtain ⟨q, rfl⟩ := hv
    exact (area_any (h.below (below_dN (Below.refl _ _) q)) h6).mono fun e w' h => ⟨h.1, h.2.symm⟩)
  have hcc := h.d.ok.c2
  have hq9 : areaN D.c ≤ 2047 := by unfold areaN; omega
  obtain ⟨q, hq⟩ : ∃ q, areaN D.c = q := ⟨_, rfl⟩
  rw [hq] at HA hq9 hu ⊢
  have hqu : (q : Int) - (u : Int) = ((q - u : Nat) : Int) := by omega
  clear h hcc hq
  go_enter Try.func11, Try.ntmps11
  go_upto_region 3 with (go_at_call 35; refine HN.out.mono ?_; rintro _ _ ⟨rfl, rfl⟩)
  go_quiet (first | (go_at_call 33; refine Calls.quiet_of_same (HA.out _ ⟨_, rfl⟩)))
  go_wp2
  refine bodyPost_ret (v := .int .i64 ((q - u : Nat) : Int)) (by simp [results, Try.results11, go_sem]; try omega) rfl ?_
  exact ⟨rfl, below_dN (Below.refl _ _) _⟩
theorem sectors_any (h : JBox w L D jb t g k u) (z : Nat) (A : Option Addr) (c : Nat) (hz : z ≤ 2000000000) : Calls Try.prog 32 #[.pointer (some ⟨jb, 0, none⟩), .slice A z c] w fun e w' => e = .returned (.int .i64 ((z / D.n : Nat) : Int)) ∧ w = w' := by
  obtain ⟨c0, _⟩ := h.cells
  have HS := hide_ (Size_any h.d)
  have hn1 := h.d.ok.n1
  obtain ⟨n, hn⟩ : ∃ n, D.n = n := ⟨_, rfl⟩
  rw [hn] at HS hn1 ⊢
  obtain ⟨q, hq⟩ : ∃ q, z / n = q := ⟨_, rfl⟩
  have hqq : wrap64 ((z : Int) / (n : Int)) = (q : Int) := by
    have h1 : z / n ≤ z := Nat.div_le_self _ _
    rw [show (z : Int) / (n : Int) = ((z / n : Nat) : Int) from rfl, hq]
    unfold wrap64
    omega
  have h4 : ((n : Int) == 0) = false := by rw [beq_eq_false_iff_ne]; omega
  have h5 : ((n : Int) = 0) = False := by simp; omega
  rw [hq]
  clear h hn hq hz
  go_enter Try.func32, Try.ntmps32
  go_wp2_with (go_at_call 31; refine HS.out.mono ?_; rintro _ _ ⟨rfl, rfl⟩)
  refine bodyPost_ret (v := .int .i64 (q : Int)) (by simp [results, Try.results32, go_sem, hqq]) rfl ?_
  exact ⟨rfl, rfl⟩
end
end Go.Proofs.Ytecbpmnolgkllaa

/-
  A range over a function whose body is always left by its end, where the iterator tells of the world what holds of each element that it hands over.
-/
namespace Go.Proofs.Ytecbpmnolgkllaa
open Go.RowKit Go.Shelf

section
variable {α : Type} {F : Fence} {n : Nat} {P : Program} {g : Operand} {ps : Array Tmp} {assign body : Code} {Q : Exit → Act → World → Prop} {a : Act} {w : World}
/-- what an iterator owes: Pr holds where it hands an element over, J is what the rounds keep -/
def Hands (F : Fence) (m : Nat) (P : Program) (gf : Nat) (lb : Array Value) (encs : α → Array Value) (Pr : List α → α → World → Prop) (Kp : World → World → Prop) (S : List α → Prop) (w : World) : Prop :=
  ∀ (l : Nat) (J : List α → World → Prop) (W : World), Below w.heap.size w W → AbidesFrom W.heap.size J →
    (∀ pre x W1, J pre W1 → Pr pre x W1 → YieldAt F (m - 1) P l (encs x) W1 fun e W' => e = .returned (.bool true) ∧ J (pre ++ [x]) W' ∧ Kp W1 W') →
    J [] W → CallsIn F m P gf (#[.func (.yield l) #[] #[]] ++ lb) W fun e W' => (∃ v, e = .returned v) ∧ ∃ xs, S xs ∧ J xs W'

theorem range_all (hro : F.round = none) (h1 : 1 ≤ n) {gf : Nat} {lb : Array Value} (hg : a.eval g = .func (.func gf) #[] lb) (hF : F.fn gf) (eg : ∀ args u, (callFunc gf args).run P u = .ok (.enter gf args) u)
    {encs : α → Array Value} (hps : ∀ x, (encs x).size = ps.size) {Pr : List α → α → World → Prop} {Kp : World → World → Prop} {S : List α → Prop} (hit : Hands F (n - 1) P gf lb encs Pr Kp S w)
    (hKt : ∀ {A B C : World}, Kp A B → Kp B C → Kp A C) (hKb : ∀ (W : World) (l : Nat) (o o' : Obj), w.heap.size ≤ l → W.heap[l]? = some o → o.isCells = false → o.isWalk = false → Kp W (W.putObj l o'))
    (hPb : ∀ pre x (W : World) (l : Nat) (o o' : Obj), w.heap.size ≤ l → W.heap[l]? = some o → o.isCells = false → Pr pre x W → Pr pre x (W.putObj l o'))
    (I : List α → World → Prop) (hI : OwnFrom w.heap.size I) (h0 : I [] w) (a1 : α → Act)
    (hassign : ∀ (l : Nat) (x : α) (W : World) (K : Act → World → Prop), K (a1 x) W → assign.wpIn (F.inRound l) (n - 1 - 1) P (Exit.then K (fun _ _ _ => False)) { tmps := (ps.zip (encs x)).foldl (fun t (p, v) => t.setIfInBounds p v) a.tmps, defers := [] } W)
    (hbody : ∀ (l : Nat) (pre : List α) (x : α) (W : World), w.heap.size ≤ l → I pre W → Pr pre x W → body.wpIn (F.inRound l) (n - 1 - 1) P (fun e _ W' => e = .normal ∧ KeepsFrom w.heap.size W W' ∧ Kp W W' ∧ I (pre ++ [x]) W') (a1 x) W)
    (hdone : ∀ (D : Nat) (xs : List α) (W : World), w.heap.size ≤ D → S xs → I xs W → W.heap[D]? = some (.deferred (some [])) → Q .normal { a with defers := { target := .collected D, args := #[] } :: a.defers } W) :
    (Code.rangeFunc g ps assign body).wpIn F n P Q a w := by
  apply wpIn_rangeFunc
  intro f hf
  rw [hro]
  -- the loop's record, at rest and under way
  obtain ⟨R, hR⟩ : ∃ R : LoopState → Loop, R = fun s => { state := s, pending := none, fn := f, tmps := a.tmps, params := ps, assign, body, defers := w.heap.size } := ⟨_, rfl⟩
  obtain ⟨U, hU⟩ : ∃ U, (w.alloc (.deferred (some []))).alloc (.loop (R .ready)) = U := ⟨_, rfl⟩
  have uL : U.heap[w.heap.size + 1]? = some (.loop (R .ready)) := by
    have := World.alloc_heap_new (w.alloc (.deferred (some []))) (.loop (R .ready))
    rw [← hU]
    rwa [World.size_alloc] at this
  have uD : U.heap[w.heap.size]? = some (.deferred (some [])) := by
    rw [← hU]
    exact (Below.heap_alloc _ _ _ (by simp)).trans (World.alloc_heap_new w _)
  have uI : I [] U := by
    rw [← hU]
    exact hI.alloc _ (hI.alloc _ h0)
  have uB : Below w.heap.size w U := by
    rw [← hU]
    exact ((Below.refl _ w).alloc (Nat.le_refl _) _).alloc (by simp) _
  refine ⟨w.heap.size + 1, [{ target := .collected w.heap.size, args := #[] }], U, { target := .fn (.func gf) lb, args := #[.func (.yield (w.heap.size + 1)) #[] #[]] }, U, gf, #[.func (.yield (w.heap.size + 1)) #[] #[]] ++ lb, U, ?_, ?_, ?_, ?_, fun _ => h1, ?_⟩
  · rw [run_enterLoop_outer, ← hU, hR]
  · simp only [resolve, hg]
    simp [go_sem]
  · intro f' e
    simp [Target.leads] at e
    subst e
    exact hF
  · simp [invoke, go_sem, eg]
  · refine (hit (w.heap.size + 1) (fun pre W => I pre W ∧ W.heap[w.heap.size + 1]? = some (.loop (R .ready)) ∧ W.heap[w.heap.size]? = some (.deferred (some []))) U uB ?_ ?_ ⟨uI, uL, uD⟩).mono ?_
    · rintro s X Y row ⟨s1, s2, s3⟩ hgr hr
      have hrc : ∀ r, row = some r → w.heap.size ≤ r ∧ ∃ o : Obj, X.heap[r]? = some o ∧ o.isCells = false := fun r e => by
        obtain ⟨b1, o, ho, hw⟩ := hr r e
        have := uB.size
        exact ⟨by omega, o, ho, Obj.not_cells_of_walk hw⟩
      have hkeep : ∀ k (o : Obj), X.heap[k]? = some o → o.isWalk = false → Y.heap[k]? = some o := fun k o hk hw => by
        refine (hgr.block k (Array.getElem?_eq_some_iff.1 hk).1 fun e => ?_).trans hk
        obtain ⟨_, o', ho', hw'⟩ := hr k e.symm
        rw [hk] at ho'
        cases ho'
        rw [hw] at hw'
        cases hw'
      exact ⟨hI s X Y row s1 hgr hrc, hkeep _ _ s2 rfl, hkeep _ _ s3 rfl⟩
    · rintro pre x W ⟨s1, s2, s3⟩ hp
      have hlt : w.heap.size + 1 < W.heap.size := (Array.getElem?_eq_some_iff.1 s2).1
      have hy := run_yield (P := P) (args := encs x) s2 (by rw [hR]; exact hps x)
      rw [hR] at hy
      refine ⟨f, _, assign, body, hy, roundIn_of_wpIn hf (hassign _ x W _ ?_)⟩
      refine ⟨_, run_beginRound s2 (by rw [hR]), ?_⟩
      obtain ⟨V, hV⟩ : ∃ V, W.putObj (w.heap.size + 1) (.loop { R .ready with state := .busy }) = V := ⟨_, rfl⟩
      have v2 : V.heap[w.heap.size + 1]? = some (.loop { R .ready with state := .busy }) := by rw [← hV]; exact World.putObj_heap_same hlt
      have v3 : V.heap[w.heap.size]? = some (.deferred (some [])) := by rw [← hV]; exact (World.putObj_heap_other (by omega)).trans s3
      have vI : I pre V := by rw [← hV]; exact hI.putObj _ s1 (by omega) s2 rfl
      have vP : Pr pre x V := by rw [← hV]; exact hPb _ _ _ _ _ _ (by omega) s2 rfl hp
      have vK : Kp W V := by rw [← hV]; exact hKb _ _ _ _ (by omega) s2 rfl rfl
      rw [hV]
      refine wpIn_mono (hbody _ pre x V (by omega) vI vP) ?_
      rintro e a3 W3 ⟨rfl, k1, k2, k3⟩
      have t2 := k1.same _ _ (by omega) v2 rfl
      have t3 := k1.same _ _ (Nat.le_refl _) v3 rfl
      have hlt3 : w.heap.size + 1 < W3.heap.size := (Array.getElem?_eq_some_iff.1 t2).1
      have he := run_endRound (P := P) none t2
      refine ⟨_, _, he, ?_, ⟨hI.putObj _ k3 (by omega) t2 rfl, ?_, (World.putObj_heap_other (by omega)).trans t3⟩, hKt vK (hKt k2 (hKb _ _ _ _ (by omega) t2 rfl rfl))⟩
      · rfl
      · rw [World.putObj_heap_same hlt3, hR]
        rfl
    · rintro e W2 ⟨⟨v, rfl⟩, xs, hS, s1, s2, s3⟩
      have he := run_endLoop (P := P) s2 (by rw [hR]; simp)
      rw [hR] at he
      exact ⟨none, _, he, hdone _ xs _ (Nat.le_refl _) hS (hI.putObj _ s1 (by omega) s2 rfl) ((World.putObj_heap_other (by omega)).trans s3)⟩
end
end Go.Proofs.Ytecbpmnolgkllaa
