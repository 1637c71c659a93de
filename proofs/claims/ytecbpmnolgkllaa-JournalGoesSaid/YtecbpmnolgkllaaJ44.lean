/-
  Texts of this claim put together: Jn11.
-/
import Derived.Test.YtecbpmnolgkllaaJ42
import Derived.Test.YtecbpmnolgkllaaJ43
import Derived.Sort.CutIn
import Derived.Maps.AppendAt
import Derived.WalkMore
import Derived.Deep.RegionHeld
import Derived.StillTailTactics
/-
  Contract of the journal's scan.
-/
namespace Go.Proofs.Ytecbpmnolgkllaa
open Go.RowKit Go.Shelf

attribute [local go_sem] Oper.semAt_some

theorem wrap_u64_13 (n : Int) : IntKind.u64.wrap n = n % 18446744073709551616 := by simp [IntKind.wrap, IntKind.bits, IntKind.signed]
theorem row_info : (Try.prog.info? 38).map (fun i => (i.zero, i.size, i.bytes)) = some (some (.slice none 0 0), 1, 24) := by kernel_rfl
theorem two_ix (a b : Value) (w : World) : (Instr.index 106 (.agg #[a, b]) (.int .i64 0)).run Try.prog w = .ok a w ∧ (Instr.index 106 (.agg #[a, b]) (.int .i64 1)).run Try.prog w = .ok b w := by
  refine ⟨?_, ?_⟩ <;> simp [Instr.index, run_underlying Try.underlying106, asIntOf, go_sem]
/-- a round's memory, from its start W on -/
structure Rnd (w : World) (C : Nat) (L : Lay) (D : Dk) (jb b0 t g K u : Nat) (rs : List (List UInt8)) (v : Value) (vs : List Value) (W wr : World) : Prop where
  s : ScanI w.heap.size (w.heap.size + 6) L D jb w.heap.size (w.heap.size + 1) t g K u rs v vs wr
  c : Chg (fun q => q = jb) w wr
  p : KpJ L b0 W wr
  k : KeepsFrom C W wr
section
variable {w W wr w' : World} {C : Nat} {L : Lay} {D : Dk} {jb b0 t g K u : Nat} {rs : List (List UInt8)} {v : Value} {vs : List Value}
theorem keeps_below {X Y : World} (h : Below X.heap.size X Y) : KeepsFrom C X Y := ⟨h.size, fun k _ _ hk _ => (h.block k (Array.getElem?_eq_some_iff.1 hk).1).trans hk⟩
theorem keeps_cells {X Y : World} {b : Nat} {cs : Array Value} {T : TypeId} (hx : BoxAt X b cs T) (hg : X.grownBy Y (some b)) : KeepsFrom C X Y := ⟨hg.size, fun k o _ hk ho => (hg.block k (Array.getElem?_eq_some_iff.1 hk).1 (fun e => by
  cases e
  rw [show X.heap[b]? = _ from hx] at hk
  cases hk
  cases ho)).trans hk⟩
theorem Rnd.below (h : Rnd w C L D jb b0 t g K u rs v vs W wr) (hb0 : b0 + 4 ≤ wr.heap.size) (hb : Below wr.heap.size wr w') : Rnd w C L D jb b0 t g K u rs v vs W w' :=
  ⟨h.s.below hb, h.c.trans (Chg.of_below (S := fun q => q = jb) hb) (fun _ e _ => e), h.p.trans (KpJ.of_below h.s.j.d hb0 hb), h.k.trans (keeps_below hb)⟩
theorem Rnd.typed {b : Nat} {cs : Array Value} {T : TypeId} (h : Rnd w C L D jb b0 t g K u rs v vs W wr) (hx : BoxAt wr b cs T) (hT : T ≠ 29 ∧ T ≠ 30 ∧ T ≠ 38 ∧ T ≠ 5) (hb : b0 + 4 ≤ b) (hB : w.heap.size ≤ b0) (hg : wr.grownBy w' (some b)) : Rnd w C L D jb b0 t g K u rs v vs W w' := by
  have hne : ∀ k, k ≠ b → k < wr.heap.size → w'.heap[k]? = wr.heap[k]? := fun k hk hl => hg.block k hl (fun e => hk (by cases e; rfl))
  refine ⟨h.s.typed hx hT (by omega) hg, h.c.trans (Chg.of_grown (S := fun q => q = jb ∨ w.heap.size ≤ q) hg (.inl (.inr (by omega)))) (fun q e hq => ?_), h.p.trans ⟨hg.size, fun k hk => ?_⟩, h.k.trans (keeps_cells hx hg)⟩
  · rcases e with e | e
    · exact e
    · omega
  · rcases hk with e | e
    · have := h.s.lt k e
      exact hne k (by omega) (h.s.j.d.lt e)
    · exact hne k (by omega) (by have := hx.lt; omega)
end
section
variable {w W wr : World} {C : Nat} {L : Lay} {D : Dk} {jb b0 t g K u : Nat} {rs : List (List UInt8)} {v : Value} {vs : List Value}
theorem Rnd.push {w5 : World} {r : List UInt8} {A : Option Addr} {c : Nat} {v' : Value} {o : Obj} (h : Rnd w C L D jb b0 t g K u rs v vs W wr) (hr : wr.ownsRow 0 5 1 (.slice A r.length c) r.length (bv r))
    (hown : w5.ownsRow (w.heap.size + 6) 38 1 v' (rs.length + 1) (vs ++ [.slice A r.length c])) (hgr : (wr.alloc o).grownBy w5 v.ownBlock) (hb0 : b0 = w.heap.size + 2) : Rnd w C L D jb b0 t g K u (rs ++ [r]) v' (vs ++ [.slice A r.length c]) W (w5.setCell ⟨w.heap.size + 1, 0, none⟩ v') := by
  have hvb : ∀ q, v.ownBlock = some q → w.heap.size + 6 ≤ q := fun q e => (h.s.ow.lt q e).1
  have gs := grown_cell9 w5 (w.heap.size + 1) 0 v'
  have hal : Below wr.heap.size wr (wr.alloc o) := (Below.refl _ _).alloc (Nat.le_refl _) _
  have hsz := h.s.sz
  have hne : ∀ k, k < wr.heap.size → v.ownBlock ≠ some k → k ≠ w.heap.size + 1 → (w5.setCell ⟨w.heap.size + 1, 0, none⟩ v').heap[k]? = wr.heap[k]? := fun k hl e1 e2 => by
    rw [Below.heap_setCell _ _ _ _ e2, hgr.block k (Nat.lt_of_lt_of_le hl hal.size) (fun e => e1 e.symm)]
    exact hal.block k hl
  have hsz2 : wr.heap.size ≤ (w5.setCell ⟨w.heap.size + 1, 0, none⟩ v').heap.size := Nat.le_trans hal.size (Nat.le_trans hgr.size gs.size)
  refine ⟨h.s.push hr hown hgr, ⟨gs.os.trans (hgr.os.trans (hal.os.trans h.c.os)), gs.tape.trans (hgr.tape.trans (hal.tape.trans h.c.tape)), gs.output.trans (hgr.output.trans (hal.output.trans h.c.output)), Nat.le_trans h.c.size hsz2, fun k hk hn => (hne k (Nat.lt_of_lt_of_le hk h.c.size) (fun e => by have := hvb k e; omega) (by omega)).trans (h.c.block k hk hn)⟩, h.p.trans ⟨hsz2, fun k hk => ?_⟩, h.k.trans ⟨hsz2, fun k ob _ hk ho => (hne k (Array.getElem?_eq_some_iff.1 hk).1 (fun e => ?_) (fun e => ?_)).trans hk⟩⟩
  · rcases hk with e | e
    · have := h.s.lt k e
      exact hne k (h.s.j.d.lt e) (fun e' => by have := hvb k e'; omega) (by omega)
    · exact hne k (by omega) (fun e' => by have := hvb k e'; omega) (by omega)
  · rcases h.s.ow.2 with ⟨rfl, _⟩ | ⟨q, cap, cur, rfl, _, hq, _⟩
    · cases e
    · injection e with e
      subst e
      rw [hq] at hk
      cases hk
      cases ho
  · subst e
    rw [show wr.heap[w.heap.size + 1]? = _ from h.s.xl] at hk
    cases hk
    cases ho
theorem Rnd.count (h : Rnd w C L D jb b0 t g K u rs v vs W wr) (u' : Nat) (hb0 : b0 = w.heap.size + 2) : Rnd w C L D jb b0 t g K u' rs v vs W (wr.setCell ⟨jb, 4, none⟩ (.int .i64 (u' : Int))) := by
  have gs := grown_cell9 wr jb 4 (.int .i64 (u' : Int))
  have hne : ∀ k, k ≠ jb → k < wr.heap.size → (wr.setCell ⟨jb, 4, none⟩ (.int .i64 (u' : Int))).heap[k]? = wr.heap[k]? := fun k hk hl => gs.block k hl (fun e => hk (by cases e; rfl))
  have hj := h.s.hj
  have hsz := h.s.sz
  refine ⟨h.s.count u', h.c.trans (Chg.of_grown (S := fun q => q = jb) gs (.inl rfl)) (fun _ e _ => e), h.p.trans ⟨gs.size, fun k hk => ?_⟩, h.k.trans (keeps_cells h.s.j.x gs)⟩
  rcases hk with e | e
  · exact hne k (fun e' => h.s.j.h (e' ▸ e)) (h.s.j.d.lt e)
  · exact hne k (by omega) (by omega)
end
theorem Sees.putObj13 {W : World} {B l : Nat} {A : Option Addr} {xs : List Value} {o o' : Obj} (h : Sees W B A xs) (hl : W.heap[l]? = some o) (ho : o.isCells = false) : Sees (W.putObj l o') B A xs := fun hn => by
  obtain ⟨ad, e, hb, hc⟩ := h hn
  refine ⟨ad, e, hb, fun j u hu => ?_⟩
  have h1 := hc j u hu
  refine (World.cell?_of_block (World.putObj_heap_other fun e' => ?_)).trans h1
  rw [World.cell?, e', hl] at h1
  cases o with
  | cells => cases ho
  | _ => simp at h1

set_option maxRecDepth 100000 in
set_option maxHeartbeats 2000000 in
theorem scan_in {w : World} {L : Lay} {D : Dk} {jb t g K : Nat} (h : JBox w L D jb t g K 0) (hc : D.calm) (hw : D.waits = []) (h6 : 6 ≤ D.c) (rs : List (List UInt8)) (hK : rs.length = K) (hK2 : K ≤ 2047) (hg : g ≤ 100000) (hrl : ∀ r ∈ rs, r.length ≤ 2048)
    (hsec : secs D.kept (frontN D.c g) (usedN g D.n 1 rs) = framesB g D.n 1 rs) (hfit : usedN g D.n 1 rs ≤ areaN D.c) :
    CallsIn .wide 6 Try.prog 26 #[.pointer (some ⟨jb, 0, none⟩)] w fun e w' => ∃ A c vs, e = .returned (.tuple #[.slice A K c, .int .i64 0]) ∧ JBox w' L D jb t g K (usedN g D.n 1 rs) ∧ w'.ownsRow w.heap.size 38 1 (.slice A K c) K vs ∧ RowsOf w' rs vs ∧ Chg (fun q => q = jb) w w' := by
  have hn1 := h.d.ok.n1
  have hcc := h.d.ok.c2
  have hae : areaN D.c ≤ 2047 := by unfold areaN; omega
  have hfe := front_end (c := D.c) (g := g)
  have HFR := hide_ (show ∀ u, Below w.heap.size w u → Calls Try.prog 51 #[.pointer (some ⟨jb, 0, none⟩), .int .u64 (g : Int)] u fun e w' => e = .returned (.int .i64 (frontN D.c g : Int)) ∧ w' = u from fun u hu => (front_any (h.below hu) h6 g hg).mono fun e w' h => ⟨h.1, h.2.symm⟩)
  have HAR := hide_ (show ∀ u, Below w.heap.size w u → Calls Try.prog 33 #[.pointer (some ⟨jb, 0, none⟩)] u fun e w' => e = .returned (.int .i64 (areaN D.c : Int)) ∧ w' = u from fun u hu => (area_any (h.below hu) h6).mono fun e w' h => ⟨h.1, h.2.symm⟩)
  obtain ⟨W1, hW1⟩ : ∃ W, (w.alloc (.cells #[.pointer (some ⟨jb, 0, none⟩)] 29)).alloc (.cells #[.slice none 0 0] 30) = W := ⟨_, rfl⟩
  have hb1 : Below w.heap.size w W1 := hW1 ▸ ((Below.refl _ _).alloc (Nat.le_refl _) _).alloc (by simp) _
  have hs1 : W1.heap.size = w.heap.size + 2 := by rw [← hW1]; simp
  have x1 : BoxAt W1 w.heap.size #[.pointer (some ⟨jb, 0, none⟩)] 29 := hW1 ▸ (BoxAt.new w _ _).alloc _
  have xl : BoxAt W1 (w.heap.size + 1) #[.slice none 0 0] 30 := by
    have := BoxAt.new (w.alloc (.cells #[.pointer (some ⟨jb, 0, none⟩)] 29)) #[.slice none 0 0] 30
    rw [hW1] at this
    simpa using this
  have hS1 : ScanI w.heap.size w.heap.size L D jb w.heap.size (w.heap.size + 1) t g K 0 [] (.slice none 0 0) [] W1 := ⟨h.below hb1, x1, xl, World.ownsRow_nil _ _ _ _, ⟨rfl, fun i r e => by simp at e⟩, fun q hq => h.d.lt hq, h.x.lt, Nat.le_refl _, Nat.le_succ _, hb1.size, Nat.le_refl _⟩
  have HW1 := hide_ hW1
  have HB1 := hide_ hb1
  have HS1 := hide_ hS1
  have HZ1 := hide_ hs1
  have H := hide_ h
  obtain ⟨c0, c1, c2, c3, c4, c5⟩ := (h.below hb1).cells
  have cx := x1.cell 0
  have cl := xl.cell 0
  simp only [List.getElem?_toArray, List.getElem?_cons_zero] at cx cl
  obtain ⟨B, hB⟩ : ∃ B, w.heap.size = B := ⟨_, rfl⟩
  have HBB := hide_ hB
  rw [hB] at cx cl
  obtain ⟨fr, hfr⟩ : ∃ q, frontN D.c g = q := ⟨_, rfl⟩
  obtain ⟨ar, har⟩ : ∃ q, areaN D.c = q := ⟨_, rfl⟩
  rw [hfr, har] at hfe
  rw [hfr] at HFR hsec
  rw [har] at HAR hfit hae
  have hfr9 : fr ≤ 2049 := by
    rw [← hfr]
    unfold frontN
    have : g % 2 < 2 := Nat.mod_lt _ (by omega)
    have h2 : g % 2 * areaN D.c ≤ 1 * 2047 := Nat.mul_le_mul (by omega) (by rw [har]; exact hae)
    omega
  obtain ⟨z, hz⟩ : ∃ z, fr + ar = z := ⟨_, rfl⟩
  have hzw : IntKind.i64.wrap ((fr : Int) + (ar : Int)) = (z : Int) := by rw [IntKind.wrap_i64]; omega
  have hzc : z ≤ D.c := by omega
  have HSEC := hide_ hsec
  have HFIT := hide_ hfit
  have HRL := hide_ hrl
  clear h hb1 hs1 x1 xl hS1 hW1 hsec hfit hrl hB hfr har
  refine callsIn_of_wp_marks Try.func26 rfl trivial ?_ rfl
  simp only [Try.ntmps26, List.size_toArray, List.length_cons, List.length_nil, Nat.reduceAdd, Nat.reduceSub, Array.replicate_succ, Array.replicate_zero, List.push_toArray, List.append_toArray, List.nil_append, List.cons_append]
  refine wpIn_wide.2 ?_
  go_wp2
  refine wp_scope_straight ?_
  go_wp2
  rw [HW1.out, HBB.out]
  have HF1 := hide_ (fun (u : World) (hu : ∃ q, u = W1.drewN q) => HFR.out u (HB1.out.trans (by obtain ⟨q, rfl⟩ := hu; exact below_dN (Below.refl _ _) q)))
  have HA1 := hide_ (fun (u : World) (hu : ∃ q, u = W1.drewN q) => HAR.out u (HB1.out.trans (by obtain ⟨q, rfl⟩ := hu; exact below_dN (Below.refl _ _) q)))
  go_quiet (first | (go_at_call 51; refine Calls.quiet_of_same (HF1.out _ ⟨_, rfl⟩)))
  go_wp2
  obtain ⟨W2, hW2⟩ : ∃ u, W1.drewN nq = u := ⟨_, rfl⟩
  have hb12 : Below W1.heap.size W1 W2 := hW2 ▸ below_dN (Below.refl _ _) nq
  have HS2 := hide_ (HS1.out.below hb12)
  have HB2 := hide_ (HB1.out.trans (hb12.mono HB1.out.size))
  have HZ2 := hide_ (show W2.heap.size = w.heap.size + 2 from by rw [← hW2]; exact HZ1.out)
  have HA2 := hide_ (show ∀ u, Below W2.heap.size W2 u → _ from fun u hu => HAR.out u (HB2.out.trans (hu.mono HB2.out.size)))
  rw [hW2]
  obtain ⟨d0, d1, d2, d3, d4, d5⟩ := HS2.out.j.cells
  have dx := HS2.out.xj.cell 0
  simp only [List.getElem?_toArray, List.getElem?_cons_zero] at dx
  rw [HBB.out] at dx
  clear hW2 hb12 HF1 HA1 HFR HAR c0 c1 c2 c3 c4 c5 cx cl
  go_step3
  go_wp2
  refine wp_region_still_tail 14 (by kernel_rfl) (by kernel_rfl) ?_
  simp only [List.take_succ_cons, List.take_zero, List.drop_succ_cons, List.drop_zero]
  repeat still_step
  refine wpStill_step (fun Kx hKx => ?_)
  go_simp
  refine ⟨_, HA2.out _ ((Below.refl _ _).drew), hKx _ ?_⟩
  clear hKx Kx
  repeat still_step
  refine wpStill_nil ?_
  obtain ⟨W3, hW3⟩ : ∃ u, W2.drew = u := ⟨_, rfl⟩
  have hb3 : Below W2.heap.size W2 W3 := hW3 ▸ (Below.refl _ _).drew
  have HS3 := hide_ (HS2.out.below hb3)
  have HB3 := hide_ (HB2.out.trans (hb3.mono HB2.out.size))
  have HZ3 := hide_ (show W3.heap.size = B + 2 from by rw [← hW3, ← HBB.out]; exact HZ2.out)
  change wpList _ _ _ _ _ W2.drew
  rw [hW3]
  clear hW3 hb3
  go_wp2_with (go_at_call 52; refine (callsIn_wide.1 (frames_in _ _ _ _ _)).mono ?_; rintro _ _ ⟨rfl, rfl⟩)
  obtain ⟨W4, hW4⟩ : ∃ W, (((W3.alloc (.cells #[.pointer (some ⟨L.b, 0, none⟩)] 25)).alloc (.cells #[.int .i64 (fr : Int)] 3)).alloc (.cells #[.int .i64 (z : Int)] 3)).alloc (.cells #[.int .u64 (K : Int)] 46) = W := ⟨_, rfl⟩
  have hb34 : Below W3.heap.size W3 W4 := hW4 ▸ ((((Below.refl _ W3).alloc (Nat.le_refl _) _).alloc (by simp) _).alloc (by simp; omega) _).alloc (by simp; omega) _
  have hs4 : W4.heap.size = W3.heap.size + 4 := by rw [← hW4]; simp
  have y0 : BoxAt W4 W3.heap.size #[.pointer (some ⟨L.b, 0, none⟩)] 25 := hW4 ▸ (((BoxAt.new W3 _ _).alloc _).alloc _).alloc _
  have y1 : BoxAt W4 (W3.heap.size + 1) #[.int .i64 (fr : Int)] 3 := by
    have := ((BoxAt.new (W3.alloc (.cells #[.pointer (some ⟨L.b, 0, none⟩)] 25)) #[.int .i64 (fr : Int)] 3).alloc (.cells #[.int .i64 (z : Int)] 3)).alloc (.cells #[.int .u64 (K : Int)] 46)
    rw [hW4] at this
    simpa using this
  have y2 : BoxAt W4 (W3.heap.size + 1 + 1) #[.int .i64 (z : Int)] 3 := by
    have := (BoxAt.new ((W3.alloc (.cells #[.pointer (some ⟨L.b, 0, none⟩)] 25)).alloc (.cells #[.int .i64 (fr : Int)] 3)) #[.int .i64 (z : Int)] 3).alloc (.cells #[.int .u64 (K : Int)] 46)
    rw [hW4] at this
    simpa using this
  have y3 : BoxAt W4 (W3.heap.size + 1 + 1 + 1) #[.int .u64 (rs.length : Int)] 46 := by
    have := BoxAt.new (((W3.alloc (.cells #[.pointer (some ⟨L.b, 0, none⟩)] 25)).alloc (.cells #[.int .i64 (fr : Int)] 3)).alloc (.cells #[.int .i64 (z : Int)] 3)) #[.int .u64 (K : Int)] 46
    rw [hW4] at this
    rw [hK]
    simpa using this
  have HS4 := hide_ ((HS3.out.below hb34).nil (R' := w.heap.size + 6) (by omega) (by rw [hs4, HZ3.out, HBB.out]; exact Nat.le_refl _))
  have HB4 := hide_ (HB3.out.trans (hb34.mono HB3.out.size))
  obtain ⟨b0, hb0⟩ : ∃ b, W3.heap.size = b := ⟨_, rfl⟩
  rw [hb0] at hs4 y0 y1 y2 y3
  have hbB : b0 = B + 2 := hb0.symm.trans HZ3.out
  have HFH := hide_ (frames_hands HS4.out.j.d hc hw fr z b0 g rs hg (by omega) HRL.out HSEC.out (by have := HFIT.out; omega) hzc y0 y1 y2 y3)
  have hLm : L.m < W4.heap.size := Nat.lt_of_lt_of_le HS4.out.j.d.map.lt (Nat.le_refl _)
  have hLt : ∀ q, L.has q → q < B := fun q hq => by have := HS4.out.lt q hq; rw [HBB.out] at this; exact this
  have HLT := hide_ hLt
  have HBB0 := hide_ hbB
  rw [hW4, hb0]
  clear hbB hW4 hb34 y0 y1 y2 y3 hb0 hLt d0 d1 d2 d3 d4 d5 dx HS2 HB2 HZ2 HA2 HS3 HB3 HZ3 HS1 HB1 HZ1
  refine (wpIn_wide (n := 6)).1 ?_
  refine range_all rfl (by omega) (gf := 84) (lb := #[.pointer (some ⟨b0 + 1, 0, none⟩), .pointer (some ⟨b0 + 1 + 1 + 1, 0, none⟩), .pointer (some ⟨b0 + 1 + 1, 0, none⟩), .pointer (some ⟨b0, 0, none⟩)]) rfl trivial (enters_of Try.func84 (by kernel_rfl) rfl)
    (encs := rcE) (fun _ => rfl) HFH.out (fun h k => h.trans k)
    (fun W l o o' hl h _ _ => ⟨(grownBy_putObj' W l o').size, fun k hk => World.putObj_heap_other (by
      rcases hk with e | e
      · have := HLT.out k e
        have := HBB0.out
        omega
      · omega)⟩)
    (fun pre x W l o o' hl h ho ⟨r, e1, e2, e3, e4⟩ => ⟨r, e1, e2, e3, by
      have e5 := (e4.putObj13 (o' := o') h ho).more (grownBy_putObj' W l o').size
      exact e5⟩)
    (fun pre W => ∃ v vs, ScanI w.heap.size (w.heap.size + 6) L D jb w.heap.size (w.heap.size + 1) t g K (usedN g D.n 1 (rs.take pre.length)) (rs.take pre.length) v vs W ∧ Chg (fun q => q = jb) w W ∧ KpJ L b0 W4 W)
    (fun pre X Y row ⟨v, vs, i1, i2, i3⟩ hgr hr => ⟨v, vs, i1.turn hLm hgr hr, ⟨hgr.os.trans i2.os, hgr.tape.trans i2.tape, hgr.output.trans i2.output, Nat.le_trans i2.size hgr.size, fun k hk hn => (hgr.block k (Nat.lt_of_lt_of_le hk i2.size) (fun e => by have := (hr k e.symm).1; have := HBB.out; have := HBB0.out; omega)).trans (i2.block k hk hn)⟩, ⟨Nat.le_trans i3.1 hgr.size, fun k hk => (hgr.block k (by
      have := i3.1
      rcases hk with e | e
      · have := HLT.out k e
        have := HBB0.out
        omega
      · omega) (fun e => by
      have := (hr k e.symm).1
      rcases hk with e | e
      · have := HLT.out k e
        have := HBB0.out
        omega
      · omega)).trans (i3.2 k hk)⟩⟩)
    ⟨_, _, HS4.out, Chg.of_below HB4.out, Nat.le_refl _, fun _ _ => rfl⟩
    (fun x => { tmps := #[.pointer (some ⟨jb, 0, none⟩), .pointer (some ⟨B, 0, none⟩), .slice none 0 0, .int .i64 0, .pointer (some ⟨B + 1, 0, none⟩), .int .i64 (fr : Int), .slice x.A x.m x.c, .int .i64 (x.s : Int), undef, undef, undef, undef, .pointer (some ⟨jb, 0, none⟩), .pointer (some ⟨jb, 0, none⟩), .pointer (some ⟨jb, 0, none⟩), .pointer (some ⟨jb, 1, none⟩), .pointer (some ⟨jb, 2, none⟩), .int .u64 (g : Int), .int .i64 (fr : Int), .pointer (some ⟨jb, 0, none⟩), .pointer (some ⟨jb, 0, none⟩), .pointer (some ⟨jb, 0, none⟩), .pointer (some ⟨L.b, 0, none⟩), .int .i64 (fr : Int), .int .i64 (fr : Int), .pointer (some ⟨jb, 0, none⟩), .int .i64 (ar : Int), .int .i64 (z : Int), .pointer (some ⟨jb, 0, none⟩), .pointer (some ⟨jb, 0, none⟩), .pointer (some ⟨jb, 1, none⟩), .pointer (some ⟨jb, 3, none⟩), .int .u64 (K : Int), .func (.func 84) #[] #[.pointer (some ⟨b0 + 1, 0, none⟩), .pointer (some ⟨b0 + 1 + 1 + 1, 0, none⟩), .pointer (some ⟨b0 + 1 + 1, 0, none⟩), .pointer (some ⟨b0, 0, none⟩)], .slice x.A x.m x.c, .int .i64 (x.s : Int), undef, undef, undef, undef, undef, undef, undef, undef, undef, undef, undef, undef, undef, undef, undef, undef, undef, undef, undef, undef, undef, undef, undef, undef, undef, undef, undef, undef, undef, undef, undef, undef, undef, undef, undef, undef, undef, undef, undef, undef, undef, undef, undef, undef, undef, undef, undef], defers := [] })
    ?assign ?body ?done
  case assign =>
    rintro l ⟨xA, xm, xc, xs⟩ W Kx hKx
    simp only [rcE]
    gi_wp2
    exact hKx
  case body =>
    rintro l pre ⟨xA, xm, xc, xs⟩ W hl ⟨v, vs, hS, hC, hP⟩ ⟨r, hr, hm, hs, hsee⟩
    simp only at hm hs hsee
    obtain ⟨k, hk⟩ : ∃ k, pre.length = k := ⟨_, rfl⟩
    have HPK := hide_ hk
    rw [hk] at hS hr hm hs hsee
    have hkK : k < rs.length := (List.getElem?_eq_some_iff.1 hr).1
    have htl : (rs.take k).length = k := by rw [List.length_take]; omega
    have hkk : k ≤ 2046 := by omega
    obtain ⟨Av, cv, rfl⟩ := own_slice hS.ow
    rw [htl] at hS
    have hrl := HRL.out r (List.mem_of_getElem? hr)
    have hlb := recB_len (g := g) (i := 1 + k) (r := r) (by omega) (by omega) (by omega)
    have hb4 : b0 + 4 ≤ W.heap.size := by have := hP.1; omega
    have HR0 := hide_ (show Rnd w W4.heap.size L D jb b0 t g K (usedN g D.n 1 (rs.take k)) (rs.take k) (.slice Av k cv) vs W W from ⟨hS, hC, ⟨Nat.le_refl _, fun _ _ => rfl⟩, KeepsFrom.refl _ _⟩)
    have HN := hide_ (New_any (recB g (1 + k) r) W.heap.size xA xm xc W hm.symm hsee (Nat.le_refl _) (by omega))
    have HTL := hide_ htl
    have HRR := hide_ hr
    have HXS := hide_ hs
    have HPP := hide_ hP
    clear hm hs hsee hS hC hP htl hr hk
    gi_wp2_with (refine ⟨trivial, ?_⟩; gi_at_call 53; refine (CallsIn.inRound l (callsIn_wide.2 HN.out)).mono ?_; rintro e w1 ⟨g8, rfl, hg8, hr1, hb1⟩; (have HR1 := hide_ (HR0.out.below hb4 hb1)); (have HD1 := hide_ hr1); (have hw1 := hb1.size); (obtain ⟨e0, e1, e2, e3, e4, e5⟩ := HR1.out.s.j.cells); (have ex := HR1.out.s.xj.cell 0); (have el := HR1.out.s.xl.cell 0); (simp only [List.getElem?_toArray, List.getElem?_cons_zero] at ex el); (rw [HBB.out] at ex el); clear hr1 hb1)
    refine wpIn_region_round (by kernel_rfl) (by kernel_rfl) (by kernel_rfl) ?_
    repeat quiet_step_in (fail)
    refine wpQuietIn_nil ?_
    rintro _ ⟨nq, rfl⟩
    have hu1 : IntKind.u64.wrap (k : Int) = (k : Int) := by rw [wrap_u64_13]; omega
    have hu2 : IntKind.u64.wrap ((k : Int) + 1) = ((1 + k : Nat) : Int) := by rw [wrap_u64_13]; omega
    rw [hu1, hu2]
    obtain ⟨w2, hw2⟩ : ∃ u, w1.drewN nq = u := ⟨_, rfl⟩
    have hb2 : Below w1.heap.size w1 w2 := hw2 ▸ below_dN (Below.refl _ _) nq
    have hb41 : b0 + 4 ≤ w1.heap.size := Nat.le_trans hb4 hw1
    have HR2 := hide_ (HR1.out.below hb41 hb2)
    have HD2 := hide_ (HD1.out.below hb2)
    rw [hw2]
    have hbB0 : w.heap.size ≤ b0 := by rw [HBB.out, HBB0.out]; omega
    have hg80 : b0 + 4 ≤ g8 := Nat.le_trans hb4 hg8
    obtain ⟨y, hy⟩ : ∃ y, 1 + k = y := ⟨_, rfl⟩
    rw [hy] at HD2 ⊢
    have HY := hide_ hy
    have hy9 : y ≤ 100000 := by omega
    have hlb2 : (numB g ++ (numB y ++ rowB r)).length ≤ 900000 := by
      rw [hy, recB, List.append_assoc] at hlb
      omega
    have HLB := hide_ (show (numB y ++ rowB r).length ≤ 900000 ∧ (rowB r).length ≤ 900000 from by
      rw [List.length_append] at hlb2
      constructor
      · omega
      · rw [List.length_append] at hlb2
        omega)
    clear hw2 hb2 HD1 hu1 hu2 e0 e1 e2 e3 e4 e5 ex el hy hlb hlb2
    gi_wp2
    gi_loopw [48] (fun i wr => ∃ rest : List UInt8, ((i = .int .i64 0 ∧ rest = numB g ++ (numB y ++ rowB r)) ∨ (i = .int .i64 1 ∧ rest = numB y ++ rowB r) ∨ (i = .int .i64 2 ∧ rest = rowB r)) ∧ Hid (Rdr wr g8 rest 0) ∧ Hid (Rnd w W4.heap.size L D jb b0 t g K (usedN g D.n 1 (rs.take k)) (rs.take k) (.slice Av k cv) vs W wr)) (fun i _ => 2 - (intOf i).toNat)
    case atStart => exact ⟨_, .inl ⟨rfl, rfl⟩, hide_ (by have := HD2.out; rw [recB, List.append_assoc] at this; exact this), HR2⟩
    case round =>
      obtain ⟨rest, hcase, HD3, HR3⟩ := hrel
      clear HR2 HD2
      have hstep : ∀ u : World, wr.grownBy u (some g8) → Rnd w W4.heap.size L D jb b0 t g K (usedN g D.n 1 (rs.take k)) (rs.take k) (.slice Av k cv) vs W u := fun u hgu => by
        obtain ⟨A', c', hx, _⟩ := HD3.out
        exact HR3.out.typed hx (by decide) hg80 hbB0 hgu
      have HST := hide_ hstep
      rcases hcase with ⟨rfl, rfl⟩ | ⟨rfl, rfl⟩ | ⟨rfl, rfl⟩
      · have hix := (two_ix (.int .u64 (g : Int)) (.int .u64 (y : Int)) wr).1
        have HNU := hide_ (Num_take HD3.out hg HLB.out.1)
        clear hstep
        gi_wp2_with (refine ⟨trivial, ?_⟩; gi_at_call 54; refine (CallsIn.inRound l (callsIn_wide.2 HNU.out)).mono ?_; rintro e w3 ⟨rfl, hr3, hg3⟩; (have HD4 := hide_ hr3); (have HR4 := hide_ (HST.out _ hg3)); clear hr3 hg3)
        go_roundw
        case rel => exact ⟨_, .inr (.inl ⟨rfl, rfl⟩), HD4, HR4⟩
        case measure => simp [intOf]
      · have hix := (two_ix (.int .u64 (g : Int)) (.int .u64 (y : Int)) wr).2
        have HNU := hide_ (Num_take HD3.out hy9 HLB.out.2)
        clear hstep
        gi_wp2_with (refine ⟨trivial, ?_⟩; gi_at_call 54; refine (CallsIn.inRound l (callsIn_wide.2 HNU.out)).mono ?_; rintro e w3 ⟨rfl, hr3, hg3⟩; (have HD4 := hide_ hr3); (have HR4 := hide_ (HST.out _ hg3)); clear hr3 hg3)
        go_roundw
        case rel => exact ⟨_, .inr (.inr ⟨rfl, rfl⟩), HD4, HR4⟩
        case measure => simp [intOf]
      · have hrow := Row_live (l := rowB r) 2048 HD3.out (by have := HLB.out.2; omega) (by omega) (by omega)
        have hput := takeR_put r [] 2048 (by omega) (by omega)
        rw [List.append_nil] at hput
        rw [hput] at hrow
        have HROW := hide_ (show Calls Try.prog 55 #[.pointer (some ⟨g8, 0, none⟩), .int .i64 2048] wr fun e w' => ∃ A c, (e = .returned (.slice A r.length c) ∧ Rdr w' g8 [] 0 ∧ wr.grownBy w' (some g8)) ∧ w'.ownsRow wr.heap.size 5 1 (.slice A r.length c) r.length (bv r) from hrow)
        obtain ⟨i0, hi, hz0, hz1, hz2⟩ := info_parts row_info
        obtain ⟨rl, hrl2⟩ : ∃ q, r.length = q := ⟨_, rfl⟩
        have HRL2 := hide_ hrl2
        rw [hrl2] at HROW
        clear hstep hrow hput hrl hrl2
        gi_upto_region 15 with (first | (refine ⟨trivial, ?_⟩; gi_at_call 55; refine (CallsIn.inRound l (callsIn_wide.2 HROW.out)).mono ?_; rintro e w4 ⟨A4, c4, ⟨rfl, hr4, hg4⟩, hown4⟩; (have HR4 := hide_ (HST.out _ hg4)); (have HO4 := hide_ (own_mono hown4 (Nat.zero_le _))); (have HEN := hide_ (show Calls Try.prog 56 #[.pointer (some ⟨g8, 0, none⟩)] w4 fun e w' => e = .returned (.int .i64 0) ∧ w4 = w' from by have := End_st (s := ([], 0)) hr4; simpa [endS] using this)); (have el4 := HR4.out.s.xl.cell 0); (simp only [List.getElem?_toArray, List.getElem?_cons_zero] at el4); (rw [HBB.out] at el4); (have how := HR4.out.s.ow); (rw [HTL.out] at how); (have HOW := hide_ how); (have hsz4 := HR4.out.s.sz); clear hr4 hg4 hown4 how) | (refine ⟨trivial, ?_⟩; gi_at_call 56; refine (CallsIn.inRound l (callsIn_wide.2 HEN.out)).mono ?_; rintro _ _ ⟨rfl, rfl⟩) | (gi_at_builtin; refine wpListIn_append_own _ rfl _ _ 30 rfl (w.heap.size + 6) 38 i0 _ 1 24 Try.underlying30 hi hz0 hz1 hz2 rfl (by decide) _ k vs rfl (HOW.out.alloc _) ⟨w4.heap.size, 0, none⟩ 1 1 [.slice A4 rl c4] rfl rfl (cell_one_new _ _ _) (by simp [Value.oneCell']) (by unfold maxLen; omega) (by omega) (by simp; omega) ?_; intro v' w5 hown5 hgr5 _; (obtain ⟨g5, cap5, rfl⟩ := ownsRow_succ hown5); (have HOW5 := hide_ hown5); (have HGR5 := hide_ hgr5); (have HL5 := hide_ (HR4.out.s.pushBox hgr5)); (have c5 := HL5.out.cell 0); (have f5 := HL5.out.free9 0); (simp only [List.getElem?_toArray, List.getElem?_cons_zero] at c5); (rw [HBB.out] at c5 f5); clear hown5 hgr5))
        have HB0 := hide_ (show b0 = w.heap.size + 2 from by rw [HBB.out]; exact HBB0.out)
        have HR5 := hide_ (HR4.out.push (r := r) (by rw [HRL2.out]; exact HO4.out) (by rw [HTL.out, HRL2.out]; exact HOW5.out) HGR5.out HB0.out)
        obtain ⟨W6, hW6⟩ : ∃ u, w5.setCell ⟨B + 1, 0, none⟩ (.slice (some ⟨g5, 0, none⟩) (k + 1) cap5) = u := ⟨_, rfl⟩
        rw [HBB.out, hW6] at HR5
        rw [hW6]
        obtain ⟨u, hu⟩ : ∃ u, usedN g D.n 1 (rs.take k) = u := ⟨_, rfl⟩
        have HU := hide_ hu
        rw [hu] at HR5
        have hrx := HRR.out
        have hkl : k < rs.length := (List.getElem?_eq_some_iff.1 hrx).1
        have hrr : rs[k] = r := (List.getElem?_eq_some_iff.1 hrx).2
        have htk : rs.take (k + 1) = rs.take k ++ [r] := by rw [List.take_succ_eq_append_getElem hkl, hrr]
        have hus : usedN g D.n 1 (rs.take (k + 1)) = u + xs := by
          rw [htk, usedN_app, HTL.out, HXS.out, hu]
          simp [usedN]
        have hu9 : u + xs ≤ 2047 := by
          have h1 := usedN_app (g := g) (n := D.n) 1 (rs.take (k + 1)) (rs.drop (k + 1))
          rw [List.take_append_drop, hus] at h1
          have := HFIT.out
          omega
        have HUS := hide_ hus
        have HTK := hide_ htk
        obtain ⟨e0, e1, e2, e3, e4, e5⟩ := HR5.out.s.j.cells
        have f4 := HR5.out.s.j.x.free9 4
        have ex := HR5.out.s.xj.cell 0
        simp only [List.getElem?_toArray, List.getElem?_cons_zero] at ex
        rw [HBB.out] at ex
        clear hW6 hu hrx hkl hrr htk hus c5 f5
        gi_wp2
        have hcu := HR5.out.count (u + xs) HB0.out
        rw [show ((u + xs : Nat) : Int) = (u : Int) + (xs : Int) from by omega, hs4] at hcu
        refine ⟨hcu.k, hcu.p, ⟨.slice (some ⟨g5, 0, none⟩) (k + 1) cap5, vs ++ [.slice A4 r.length c4], ?_⟩, hcu.c, HPP.out.trans hcu.p⟩
        rw [HPK.out, HUS.out, HTK.out]
        exact hcu.s
  case done =>
    rintro Dd xs W hD hxs ⟨v, vs, hS, hC, hP⟩ hKd
    rw [hxs, List.take_length] at hS
    obtain ⟨Av, cv, rfl⟩ := own_slice hS.ow
    rw [hK] at hS
    have hDl : Dd < W.heap.size := (Array.getElem?_eq_some_iff.1 hKd).1
    obtain ⟨e0, e1, e2, e3, e4, e5⟩ := hS.j.cells
    have ex := hS.xj.cell 0
    have el := hS.xl.cell 0
    simp only [List.getElem?_toArray, List.getElem?_cons_zero] at ex el
    rw [HBB.out] at ex el
    have HS := hide_ hS
    have HC := hide_ hC
    have HKD := hide_ hKd
    have HDD := hide_ hD
    have hu1 : IntKind.u64.wrap (K : Int) = (K : Int) := by rw [wrap_u64_13]; omega
    clear hS hC hP hKd hD
    go_wp2
    go_quiet (fail)
    obtain ⟨W6, hW6⟩ : ∃ u, W.drewN nq = u := ⟨_, rfl⟩
    have hb6 : Below W.heap.size W W6 := hW6 ▸ below_dN (Below.refl _ _) nq
    have HS6 := hide_ (HS.out.below hb6)
    have HC6 := hide_ (HC.out.trans (Chg.of_below (S := fun q => q = jb) hb6) (fun _ e _ => e))
    have HK6 := hide_ (show W6.heap[Dd]? = some (.deferred (some [])) from (hb6.block _ hDl).trans HKD.out)
    rw [hW6]
    have el6 := HS6.out.xl.cell 0
    simp only [List.getElem?_toArray, List.getElem?_cons_zero] at el6
    rw [HBB.out] at el6
    clear hW6 hb6 e0 e1 e2 e3 e4 e5 ex el
    go_wp2
    rw [Exit.noGoto_ret]
    refine ⟨by simp, .inl ⟨_, _, rfl, run_takeDeferred HK6.out, ?_⟩⟩
    refine ⟨.tuple #[.slice Av K cv, .int .i64 0], by simp [results, Try.f26, go_sem], Av, cv, vs, rfl, ?_⟩
    have hgp := grownBy_putObj' W6 Dd (.deferred none)
    have hst := HS6.out.turn hLm hgp (fun r e => by cases e; exact ⟨HDD.out, _, HK6.out, rfl⟩)
    have how := hst.ow
    rw [hK] at how
    refine ⟨hst.j, own_mono how (by omega), hst.rw, ⟨HC6.out.os, HC6.out.tape, HC6.out.output, Nat.le_trans HC6.out.size hgp.size, fun k hk hn => (World.putObj_heap_other (by have := HDD.out; have := HBB.out; have := HBB0.out; omega)).trans (HC6.out.block k hk hn)⟩⟩

theorem scan_any {w : World} {L : Lay} {D : Dk} {jb t g K : Nat} (h : JBox w L D jb t g K 0) (hc : D.calm) (hw : D.waits = []) (h6 : 6 ≤ D.c) (rs : List (List UInt8)) (hK : rs.length = K) (hK2 : K ≤ 2047) (hg : g ≤ 100000) (hrl : ∀ r ∈ rs, r.length ≤ 2048)
    (hsec : secs D.kept (frontN D.c g) (usedN g D.n 1 rs) = framesB g D.n 1 rs) (hfit : usedN g D.n 1 rs ≤ areaN D.c) :
    Calls Try.prog 26 #[.pointer (some ⟨jb, 0, none⟩)] w fun e w' => ∃ A c vs, e = .returned (.tuple #[.slice A K c, .int .i64 0]) ∧ JBox w' L D jb t g K (usedN g D.n 1 rs) ∧ w'.ownsRow w.heap.size 38 1 (.slice A K c) K vs ∧ RowsOf w' rs vs ∧ Chg (fun q => q = jb) w w' :=
  (callsIn_wide (n := 6)).1 (scan_in h hc hw h6 rs hK hK2 hg hrl hsec hfit)
end Go.Proofs.Ytecbpmnolgkllaa
