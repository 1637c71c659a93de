/-
  Texts of this claim put together: Jn9, Jn10.
-/
import Derived.Test.YtecbpmnolgkllaaJ41
/-
  Contract of the journal's frames, as a function that is ranged over.
-/
namespace Go.Proofs.Ytecbpmnolgkllaa
open Go.RowKit Go.Shelf

attribute [local go_sem] Oper.semAt_some

theorem frameB_len_rec {g n i : Nat} {r : List UInt8} (h0 : 0 < n) : (frameB (recB g i r) n).length = recN g n i r * n := frameB_len h0
theorem frame_at {kept : Nat → List UInt8} {n a g : Nat} (hk : ∀ i, (kept i).length = n) (h0 : 0 < n) (l1 l2 : List (List UInt8)) (r : List UInt8) (h : secs kept a (usedN g n 1 (l1 ++ r :: l2)) = framesB g n 1 (l1 ++ r :: l2)) :
    secs kept (a + usedN g n 1 l1) (recN g n (1 + l1.length) r) = frameB (recB g (1 + l1.length) r) n := by
  rw [framesB_app, usedN_app] at h
  have h2 := secs_drop hk a (usedN g n 1 l1) (usedN g n (1 + l1.length) (r :: l2))
  rw [h, List.drop_append_of_le_length (by rw [framesB_len h0]; exact Nat.le_refl _), List.drop_of_length_le (by rw [framesB_len h0]; exact Nat.le_refl _), List.nil_append, framesB, usedN] at h2
  have h3 := secs_take hk (a + usedN g n 1 l1) (recN g n (1 + l1.length) r) (usedN g n (1 + l1.length + 1) l2)
  rw [← h2, ← frameB_len_rec h0, List.take_append_of_le_length (Nat.le_refl _), List.take_length] at h3
  exact h3.symm

/-- a record's bytes as they are handed over: a slice, and how many sectors -/
structure RcM where
  A : Option Addr
  m : Nat
  c : Nat
  s : Nat
def rcE (x : RcM) : Array Value := #[.slice x.A x.m x.c, .int .i64 (x.s : Int)]
/-- what holds where the next record is handed over -/
def RcP (g n : Nat) (rs : List (List UInt8)) (pre : List RcM) (x : RcM) (W : World) : Prop :=
  ∃ r, rs[pre.length]? = some r ∧ x.m = (recB g (1 + pre.length) r).length ∧ x.s = recN g n (1 + pre.length) r ∧ Sees W W.heap.size x.A (bv (recB g (1 + pre.length) r))
/-- the disk's blocks, and the four that are captured, stay -/
def KpJ (L : Lay) (b0 : Nat) (W W' : World) : Prop := W.heap.size ≤ W'.heap.size ∧ ∀ k, L.has k ∨ (b0 ≤ k ∧ k < b0 + 4) → W'.heap[k]? = W.heap[k]?
theorem KpJ.trans {L : Lay} {b0 : Nat} {A B C : World} (h : KpJ L b0 A B) (k : KpJ L b0 B C) : KpJ L b0 A C := ⟨Nat.le_trans h.1 k.1, fun i hi => (k.2 i hi).trans (h.2 i hi)⟩
theorem KpJ.of_below {L : Lay} {D : Dk} {b0 : Nat} {W W' : World} (hd : DiskAt W L D) (hb : b0 + 4 ≤ W.heap.size) (h : Below W.heap.size W W') : KpJ L b0 W W' := ⟨h.size, fun k hk => h.block k (by
  rcases hk with e | e
  · exact hd.lt e
  · omega)⟩

set_option maxRecDepth 100000 in
set_option maxHeartbeats 2000000 in
theorem frames_in (w : World) (bc a z k : Nat) : CallsIn .wide 3 Try.prog 52 #[.pointer (some ⟨bc, 0, none⟩), .int .i64 (a : Int), .int .i64 (z : Int), .int .u64 (k : Int)] w fun e w' =>
    e = .returned (.func (.func 84) #[] #[.pointer (some ⟨w.heap.size + 1, 0, none⟩), .pointer (some ⟨w.heap.size + 1 + 1 + 1, 0, none⟩), .pointer (some ⟨w.heap.size + 1 + 1, 0, none⟩), .pointer (some ⟨w.heap.size, 0, none⟩)]) ∧
      w' = (((w.alloc (.cells #[.pointer (some ⟨bc, 0, none⟩)] 25)).alloc (.cells #[.int .i64 (a : Int)] 3)).alloc (.cells #[.int .i64 (z : Int)] 3)).alloc (.cells #[.int .u64 (k : Int)] 46) := by
  refine callsIn_of_wp Try.func52 rfl trivial ?_ rfl
  simp only [Try.ntmps52, List.size_toArray, List.length_cons, List.length_nil, Nat.reduceAdd, Nat.reduceSub, Array.replicate_succ, Array.replicate_zero, List.push_toArray, List.append_toArray, List.nil_append, List.cons_append]
  gi_wp2
  go_ret
  exact ⟨rfl, rfl⟩

set_option maxRecDepth 100000 in
set_option maxHeartbeats 2000000 in
theorem frames_hands {w : World} {L : Lay} {D : Dk} (h : DiskAt w L D) (hc : D.calm) (hw : D.waits = []) (a z b0 g : Nat) (rs : List (List UInt8)) (hg : g ≤ 100000) (hrs : rs.length ≤ 2047) (hrl : ∀ r ∈ rs, r.length ≤ 2048) (hsec : secs D.kept a (usedN g D.n 1 rs) = framesB g D.n 1 rs) (hz : a + usedN g D.n 1 rs ≤ z) (hzc : z ≤ D.c)
    (h0 : BoxAt w b0 #[.pointer (some ⟨L.b, 0, none⟩)] 25) (h1 : BoxAt w (b0 + 1) #[.int .i64 (a : Int)] 3) (h2 : BoxAt w (b0 + 1 + 1) #[.int .i64 (z : Int)] 3) (h3 : BoxAt w (b0 + 1 + 1 + 1) #[.int .u64 (rs.length : Int)] 46) :
    Hands .wide 5 Try.prog 84 #[.pointer (some ⟨b0 + 1, 0, none⟩), .pointer (some ⟨b0 + 1 + 1 + 1, 0, none⟩), .pointer (some ⟨b0 + 1 + 1, 0, none⟩), .pointer (some ⟨b0, 0, none⟩)] rcE (RcP g D.n rs) (KpJ L b0) (fun xs => xs.length = rs.length) w := fun l J W hW hJ hY hJ0 => by
  have hb0 : b0 + 4 ≤ w.heap.size := h3.lt
  have hn1 := h.ok.n1
  have hcc := h.ok.c2
  have KW := KpJ.of_below h hb0 hW
  refine callsIn_of_wp Try.func84 rfl trivial ?_ rfl
  simp only [Try.ntmps84, List.size_toArray, List.length_cons, List.length_nil, Nat.reduceAdd, Nat.reduceSub, Array.replicate_succ, Array.replicate_zero, List.push_toArray, List.append_toArray, List.nil_append, List.cons_append]
  have H := hide_ h
  have X0 := hide_ h0
  have X1 := hide_ h1
  have X2 := hide_ h2
  have X3 := hide_ h3
  have c1 := (World.cell?_of_block (a := ⟨b0 + 1, 0, none⟩) (KW.2 _ (.inr ⟨by show b0 ≤ b0 + 1; omega, by show b0 + 1 < b0 + 4; omega⟩))).trans (h1.cell 0)
  simp only [List.getElem?_toArray, List.getElem?_cons_zero] at c1
  have HK0 := hide_ KW
  obtain ⟨n, hn⟩ : ∃ n, D.n = n := ⟨_, rfl⟩
  rw [hn] at hsec hz hn1
  obtain ⟨q, hq⟩ : ∃ q, rs.length = q := ⟨_, rfl⟩
  have HQ := hide_ hq
  rw [hq] at hrs
  have HN := hide_ hn
  have HS := hide_ hsec
  have HRL := hide_ hrl
  clear h h0 h1 h2 h3 hW KW hn hsec hrl hq
  gi_wp2
  gi_loopw [6, 7] (fun u v wr => ∃ (xs : List RcM) (k p : Nat), k ≤ q ∧ u = .int .i64 (p : Int) ∧ v = .int .u64 (k : Int) ∧ Hid (xs.length = k) ∧ Hid (p = a + usedN g n 1 (rs.take k)) ∧ Hid (J xs wr) ∧ Hid (KpJ L b0 w wr) ∧ Hid (W.heap.size ≤ wr.heap.size)) (fun _ v _ => q - (intOf v).toNat)
  case atStart => exact ⟨[], 0, a, Nat.zero_le _, rfl, rfl, hide_ rfl, hide_ (by simp [usedN]), hide_ hJ0, HK0, hide_ (Nat.le_refl _)⟩
  case round =>
    obtain ⟨xs, k, p, hk, rfl, rfl, HX, HP, HJ, HK, HW⟩ := hrel
    have hst := fun i (hi : b0 ≤ i ∧ i < b0 + 4) => HK.out.2 i (.inr hi)
    have c3 := (World.cell?_of_block (a := ⟨b0 + 1 + 1 + 1, 0, none⟩) (hst _ ⟨by show b0 ≤ b0 + 1 + 1 + 1; omega, by show b0 + 1 + 1 + 1 < b0 + 4; omega⟩)).trans (X3.out.cell 0)
    have c2 := (World.cell?_of_block (a := ⟨b0 + 1 + 1, 0, none⟩) (hst _ ⟨by show b0 ≤ b0 + 1 + 1; omega, by show b0 + 1 + 1 < b0 + 4; omega⟩)).trans (X2.out.cell 0)
    have c0 := (World.cell?_of_block (a := ⟨b0, 0, none⟩) (hst _ ⟨by show b0 ≤ b0; omega, by show b0 < b0 + 4; omega⟩)).trans (X0.out.cell 0)
    simp only [List.getElem?_toArray, List.getElem?_cons_zero] at c0 c2 c3
    rw [HQ.out] at c3
    clear hst
    by_cases hlt : k < q
    · obtain ⟨r, hr⟩ : ∃ r, rs[k]? = some r := ⟨_, List.getElem?_eq_getElem (by rw [HQ.out]; exact hlt)⟩
      have hkl : k < rs.length := by rw [HQ.out]; exact hlt
      have hrr : rs[k] = r := (List.getElem?_eq_some_iff.1 hr).2
      have hsp : rs = rs.take k ++ r :: rs.drop (k + 1) := by rw [← hrr, List.getElem_cons_drop hkl, List.take_append_drop]
      have htl : (rs.take k).length = k := by rw [List.length_take]; omega
      have hfa := frame_at (a := a) (g := g) (n := n) (by rw [← HN.out]; exact H.out.ok.k) (by omega) (rs.take k) (rs.drop (k + 1)) r (by rw [← hsp]; exact HS.out)
      have hu : usedN g n 1 (rs.take k) + recN g n (1 + k) r ≤ usedN g n 1 rs := by
        have := usedN_app (g := g) (n := n) 1 (rs.take k) (r :: rs.drop (k + 1))
        rw [← hsp, htl, usedN] at this
        omega
      have hu2 : usedN g n 1 rs = usedN g n 1 (rs.take k) + (recN g n (1 + k) r + usedN g n (1 + k + 1) (rs.drop (k + 1))) := by
        have := usedN_app (g := g) (n := n) 1 (rs.take k) (r :: rs.drop (k + 1))
        rwa [← hsp, htl, usedN] at this
      have hus : usedN g n 1 (rs.take (k + 1)) = usedN g n 1 (rs.take k) + recN g n (1 + k) r := by
        have e1 : rs.take (k + 1) = rs.take k ++ [r] := by rw [List.take_succ_eq_append_getElem hkl, hrr]
        rw [e1, usedN_app, htl]
        simp [usedN]
      rw [htl, ← HP.out] at hfa
      have hp1 := recN_pos (g := g) (i := 1 + k) (n := n) (by omega) r
      have hlr := HRL.out r (List.mem_of_getElem? hr)
      have hlb := recB_len (g := g) (i := 1 + k) (r := r) (by omega) (by omega) (by omega)
      have hdr : DiskAt wr L D := H.out.stay fun i hi => HK.out.2 i (.inl hi)
      have HGF := hide_ (getFrame_right hdr hc hw p z (recB g (1 + k) r) (by omega) (by rw [HN.out]; exact hfa) (by rw [HN.out]; show p + recN g n (1 + k) r ≤ z; rw [HP.out]; omega) hzc)
      rw [HN.out, show secN ((recB g (1 + k) r).length + 10) n = recN g n (1 + k) r from rfl] at HGF
      obtain ⟨s, hs⟩ : ∃ s, recN g n (1 + k) r = s := ⟨_, rfl⟩
      obtain ⟨m, hm⟩ : ∃ m, (recB g (1 + k) r).length = m := ⟨_, rfl⟩
      have hps : p + s ≤ z := by rw [← hs, HP.out]; omega
      have HPN := hide_ (show p + s = a + usedN g n 1 (rs.take (k + 1)) from by rw [hus, ← hs, HP.out]; omega)
      have HMM := hide_ hm
      have HSS := hide_ hs
      have HRR := hide_ hr
      have HDR := hide_ hdr
      rw [hs, hm] at HGF
      rw [hs] at hp1
      have hb9 : b0 + 4 ≤ wr.heap.size := Nat.le_trans hb0 HK.out.1
      have hpz : p < z := by omega
      clear hr hkl hrr hsp htl hfa hu hu2 hus hlr hlb hdr hs hm
      gi_wp2_with (refine ⟨trivial, ?_⟩; gi_at_call 81; refine (callsIn_wide.2 HGF.out).mono ?_; rintro e w1 ⟨A1, cp1, rfl, hs1, hb1⟩; (obtain ⟨fn, tmps, assign, body, hy, hR⟩ := hY xs ⟨A1, m, cp1, s⟩ w1 (hJ xs wr w1 none HJ.out ⟨hb1.os, hb1.tape, hb1.output, hb1.size, fun i hi _ => hb1.block i hi⟩ (fun _ e => by cases e)) ⟨r, by rw [HX.out]; exact HRR.out, by rw [HX.out]; exact HMM.out.symm, by rw [HX.out, HN.out]; exact HSS.out.symm, by rw [HX.out]; exact hs1⟩); (simp only [rcE] at hy); (have HKW := hide_ (HK.out.trans (KpJ.of_below HDR.out hb9 hb1))); (have HWW := hide_ (Nat.le_trans HW.out hb1.size)); clear hs1 hb1)
      refine hR.mono ?_
      rintro e W3 ⟨rfl, hJ3, hk3⟩
      have HJ3 := hide_ hJ3
      have HK3 := hide_ (HKW.out.trans hk3)
      have HW3 := hide_ (Nat.le_trans HWW.out hk3.1)
      clear hJ3 hk3
      gi_wp2
      go_roundw
      case rel => exact ⟨_, k + 1, p + s, by omega, by go_num, by go_num, by rw [List.length_append, HX.out]; exact hide_ rfl, HPN, HJ3, HK3, HW3⟩
      case measure => simp [intOf]; omega
    · obtain rfl : k = q := by omega
      have hno : ¬ k < k := by omega
      gi_wp2
      go_end0
      exact ⟨⟨_, rfl⟩, xs, HX.out.trans HQ.out.symm, HJ.out⟩
end Go.Proofs.Ytecbpmnolgkllaa

/-
  What stands in memory between two rounds of the journal's scan.
-/
namespace Go.Proofs.Ytecbpmnolgkllaa
open Go.RowKit Go.Shelf

/-- rows of bytes that slices' values see -/
def RowsOf (W : World) (rs : List (List UInt8)) (vs : List Value) : Prop := vs.length = rs.length ∧ ∀ (i : Nat) (r : List UInt8), rs[i]? = some r → ∃ A c, vs[i]? = some (.slice A r.length c) ∧ W.ownsRow 0 5 1 (.slice A r.length c) r.length (bv r)
theorem RowsOf.below {W W' : World} {rs : List (List UInt8)} {vs : List Value} (h : RowsOf W rs vs) (hb : Below W.heap.size W W') : RowsOf W' rs vs := ⟨h.1, fun i r e => by
  obtain ⟨A, c, h1, h2⟩ := h.2 i r e
  exact ⟨A, c, h1, own_below h2 hb⟩⟩
theorem own_turn {W W' : World} {row : Option Nat} {base n s : Nat} {e : TypeId} {v : Value} {xs : List Value} (h : W.ownsRow base e s v n xs) (hg : W.grownBy W' row) (hr : ∀ r, row = some r → ∃ o : Obj, W.heap[r]? = some o ∧ o.isCells = false) : W'.ownsRow base e s v n xs := by
  refine ⟨h.1, ?_⟩
  rcases h.2 with h0 | ⟨g', cap, cur, rfl, h1, hg', h2⟩
  · exact .inl h0
  · exact .inr ⟨g', cap, cur, rfl, h1, (cells_turn hg hr hg').trans hg', h2⟩

structure ScanI (B R : Nat) (L : Lay) (D : Dk) (jb bj bl t g K u : Nat) (rs : List (List UInt8)) (v : Value) (vs : List Value) (W : World) : Prop where
  j : JBox W L D jb t g K u
  xj : BoxAt W bj #[.pointer (some ⟨jb, 0, none⟩)] 29
  xl : BoxAt W bl #[v] 30
  ow : W.ownsRow R 38 1 v rs.length vs
  rw : RowsOf W rs vs
  lt : ∀ q, L.has q → q < B
  hj : jb < B
  bj : B ≤ bj
  bl : B ≤ bl
  sz : R ≤ W.heap.size
  hR : B ≤ R
section
variable {B R : Nat} {L : Lay} {D : Dk} {jb bj bl t g K u : Nat} {rs : List (List UInt8)} {v : Value} {vs : List Value} {W W' : World}
theorem ScanI.below (h : ScanI B R L D jb bj bl t g K u rs v vs W) (hb : Below W.heap.size W W') : ScanI B R L D jb bj bl t g K u rs v vs W' :=
  ⟨h.j.below hb, h.xj.below hb, h.xl.below hb, own_below h.ow hb, h.rw.below hb, h.lt, h.hj, h.bj, h.bl, Nat.le_trans h.sz hb.size, h.hR⟩
theorem ScanI.turn {row : Option Nat} {C : Nat} (h : ScanI B R L D jb bj bl t g K u rs v vs W) (hC : L.m < C) (hg : W.grownBy W' row) (hr : ∀ r, row = some r → C ≤ r ∧ ∃ o : Obj, W.heap[r]? = some o ∧ o.isCells = false) : ScanI B R L D jb bj bl t g K u rs v vs W' :=
  have hrc := fun r e => (hr r e).2
  ⟨⟨h.j.d.turn13 hC hg hr, (cells_turn hg hrc h.j.x).trans h.j.x, h.j.h⟩, (cells_turn hg hrc h.xj).trans h.xj, (cells_turn hg hrc h.xl).trans h.xl, own_turn h.ow hg hrc, ⟨h.rw.1, fun i r e => by
    obtain ⟨A, c, h1, h2⟩ := h.rw.2 i r e
    exact ⟨A, c, h1, own_turn h2 hg hrc⟩⟩, h.lt, h.hj, h.bj, h.bl, Nat.le_trans h.sz hg.size, h.hR⟩
theorem ScanI.nil {R' : Nat} (h : ScanI B R L D jb bj bl t g K u [] (.slice none 0 0) [] W) (h1 : B ≤ R') (h2 : R' ≤ W.heap.size) : ScanI B R' L D jb bj bl t g K u [] (.slice none 0 0) [] W :=
  ⟨h.j, h.xj, h.xl, World.ownsRow_nil _ _ _ _, h.rw, h.lt, h.hj, h.bj, h.bl, h2, h1⟩
/-- a block of another type changes -/
theorem ScanI.typed {b : Nat} {cs : Array Value} {T : TypeId} (h : ScanI B R L D jb bj bl t g K u rs v vs W) (hx : BoxAt W b cs T) (hT : T ≠ 29 ∧ T ≠ 30 ∧ T ≠ 38 ∧ T ≠ 5) (hb : B ≤ b) (hg : W.grownBy W' (some b)) : ScanI B R L D jb bj bl t g K u rs v vs W' := by
  have hne : ∀ k, k ≠ b → k < W.heap.size → W'.heap[k]? = W.heap[k]? := fun k hk hl => hg.block k hl (fun e => hk (by cases e; rfl))
  have hjl := h.j.x.lt
  refine ⟨⟨h.j.d.stay fun q hq => hne q (fun e => ?_) (h.j.d.lt hq), (hne jb (fun e => ?_) hjl).trans h.j.x, h.j.h⟩, BoxAt.keep13 h.xj hg (fun e => ?_), BoxAt.keep13 h.xl hg (fun e => ?_), own_other9 h.ow (hx.apart9 hT.2.2.1 h.ow) hg, ⟨h.rw.1, fun i r e => ?_⟩, h.lt, h.hj, h.bj, h.bl, Nat.le_trans h.sz hg.size, h.hR⟩
  · have := h.lt q hq
    omega
  · have := h.hj
    omega
  · subst e
    exact two_kinds hx h.xj hT.1 rfl
  · subst e
    exact two_kinds hx h.xl hT.2.1 rfl
  · obtain ⟨A, c, h1, h2⟩ := h.rw.2 i r e
    exact ⟨A, c, h1, own_other9 h2 (hx.apart9 hT.2.2.2 h2) hg⟩
theorem ScanI.pushBox {w1 : World} {o : Obj} (h : ScanI B R L D jb bj bl t g K u rs v vs W) (hgr : (W.alloc o).grownBy w1 v.ownBlock) : BoxAt w1 bl #[v] 30 := by
  have hb := h.below (W' := W.alloc o) ((Below.refl _ _).alloc (Nat.le_refl _) _)
  exact (hgr.block bl hb.xl.lt (fun e => (hb.xl.apart9 (by decide) hb.ow) e)).trans hb.xl
/-- one record more -/
theorem ScanI.push {w1 : World} {r : List UInt8} {A : Option Addr} {c : Nat} {v' : Value} {o : Obj} (h : ScanI B R L D jb bj bl t g K u rs v vs W) (hr : W.ownsRow 0 5 1 (.slice A r.length c) r.length (bv r))
    (hown : w1.ownsRow R 38 1 v' (rs.length + 1) (vs ++ [.slice A r.length c])) (hgr : (W.alloc o).grownBy w1 v.ownBlock) : ScanI B R L D jb bj bl t g K u (rs ++ [r]) v' (vs ++ [.slice A r.length c]) (w1.setCell ⟨bl, 0, none⟩ v') := by
  have hal : Below W.heap.size W (W.alloc o) := (Below.refl _ _).alloc (Nat.le_refl _) _
  have hb := h.below hal
  have hvb : ∀ q, v.ownBlock = some q → B ≤ q := fun q e => Nat.le_trans h.hR (h.ow.lt q e).1
  have n1 := hb.xj.apart9 (by decide) hb.ow
  have n2 := hb.xl.apart9 (by decide) hb.ow
  have hne : ∀ k, some k ≠ v.ownBlock → k ≠ bl → k < (W.alloc o).heap.size → (w1.setCell ⟨bl, 0, none⟩ v').heap[k]? = (W.alloc o).heap[k]? := fun k e1 e2 hl => by
    rw [Below.heap_setCell _ _ _ _ e2]
    exact hgr.block k hl (fun e => e1 e)
  have hlj : jb < (W.alloc o).heap.size := hb.j.x.lt
  have hbj : bj ≠ bl := fun e => two_kinds h.xj (e ▸ h.xl) (by decide) rfl
  have gs := grown_cell9 w1 bl 0 v'
  have l1 : BoxAt w1 bl #[v] 30 := (hgr.block bl hb.xl.lt (fun e => n2 e)).trans hb.xl
  refine ⟨⟨hb.j.d.stay fun q hq => hne q (fun e => ?_) (fun e => ?_) (hb.j.d.lt hq), (hne jb (fun e => ?_) (fun e => ?_) hlj).trans hb.j.x, h.j.h⟩, (hne bj n1 hbj hb.xj.lt).trans hb.xj, ?_, ?_, ⟨?_, ?_⟩, h.lt, h.hj, h.bj, h.bl, ?_, h.hR⟩
  · have := h.lt q hq
    have := hvb q e.symm
    omega
  · have := h.lt q hq
    have := h.bl
    omega
  · have := h.hj
    have := hvb jb e.symm
    omega
  · have := h.hj
    have := h.bl
    omega
  · have := l1.set9 0 v'
    simpa using this
  · rw [List.length_append]
    exact own_other9 hown (l1.apart9 (by decide) hown) gs
  · rw [List.length_append, List.length_append, h.rw.1]
    rfl
  · have keep : ∀ {A' : Option Addr} {r' : List UInt8} {c' : Nat}, W.ownsRow 0 5 1 (.slice A' r'.length c') r'.length (bv r') → (w1.setCell ⟨bl, 0, none⟩ v').ownsRow 0 5 1 (.slice A' r'.length c') r'.length (bv r') := fun {A' r' c'} hx => by
      refine own_other9 ?_ (l1.apart9 (by decide) (e := 5) (?_ : w1.ownsRow 0 5 1 (.slice A' r'.length c') r'.length (bv r'))) gs
      all_goals
        have hx1 := own_below hx hal
        refine ⟨hx1.1, ?_⟩
        rcases hx1.2 with h0 | ⟨q, cap, cur, e, h1, hq, h2⟩
        · exact .inl h0
        · refine .inr ⟨q, cap, cur, e, h1, (hgr.block q (Array.getElem?_eq_some_iff.1 hq).1 fun e' => ?_).trans hq, h2⟩
          exact BoxAt.apart9 (show BoxAt (W.alloc o) q cur 5 from hq) (by decide) hb.ow e'
    intro i r' e
    by_cases hi : i < rs.length
    · rw [List.getElem?_append_left hi] at e
      obtain ⟨A', c', h1, h2⟩ := h.rw.2 i r' e
      exact ⟨A', c', by rw [List.getElem?_append_left (by rw [h.rw.1]; exact hi)]; exact h1, keep h2⟩
    · have hi2 : i = rs.length := by
        have := (List.getElem?_eq_some_iff.1 e).1
        rw [List.length_append] at this
        simp at this
        omega
      subst hi2
      simp at e
      subst e
      exact ⟨A, c, by rw [← h.rw.1]; simp, keep hr⟩
  · have := hgr.size
    have := gs.size
    have := h.sz
    have := hal.size
    omega
/-- what is used is told -/
theorem ScanI.count (h : ScanI B R L D jb bj bl t g K u rs v vs W) (u' : Nat) : ScanI B R L D jb bj bl t g K u' rs v vs (W.setCell ⟨jb, 4, none⟩ (.int .i64 (u' : Int))) := by
  have gs := grown_cell9 W jb 4 (.int .i64 (u' : Int))
  have hne : ∀ k, k ≠ jb → k < W.heap.size → (W.setCell ⟨jb, 4, none⟩ (.int .i64 (u' : Int))).heap[k]? = W.heap[k]? := fun k hk hl => gs.block k hl (fun e => hk (by cases e; rfl))
  have hx := h.j.x.set9 4 (.int .i64 (u' : Int))
  refine ⟨⟨h.j.d.stay fun q hq => hne q (fun e => h.j.h (e ▸ hq)) (h.j.d.lt hq), by simpa [jcs] using hx, h.j.h⟩, BoxAt.keep13 h.xj gs (by have := h.hj; have := h.bj; omega), BoxAt.keep13 h.xl gs (by have := h.hj; have := h.bl; omega), own_other9 h.ow (h.j.x.apart9 (by decide) h.ow) gs, ⟨h.rw.1, fun i r e => ?_⟩, h.lt, h.hj, h.bj, h.bl, Nat.le_trans h.sz gs.size, h.hR⟩
  obtain ⟨A, c, h1, h2⟩ := h.rw.2 i r e
  exact ⟨A, c, h1, own_other9 h2 (h.j.x.apart9 (by decide) h2) gs⟩
end
end Go.Proofs.Ytecbpmnolgkllaa
