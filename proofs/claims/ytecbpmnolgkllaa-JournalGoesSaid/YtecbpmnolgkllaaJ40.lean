/-
  Texts of this claim put together: Jn7.
-/
import Derived.Test.YtecbpmnolgkllaaJ39
/-
  Contracts of the journal's writeTo, write.
-/
namespace Go.Proofs.Ytecbpmnolgkllaa
open Go.RowKit Go.Shelf

attribute [local go_sem] Oper.semAt_some

/-- parts of F, by their numbers, wait for the sectors from a on -/
def waitL (D : Dk) (a : Nat) (F : List UInt8) (l : List Nat) : Dk := { D with waits := l.mapIdx fun i x => (a + i, chunkB F D.n x) }
theorem waitL_nil {D : Dk} (h : D.waits = []) (a : Nat) (F : List UInt8) : waitL D a F [] = D := by
  unfold waitL
  simp [← h]
theorem waitL_range (D : Dk) (a : Nat) (F : List UInt8) (q : Nat) : waitL D a F (List.range q) = waitD D a F q := by
  unfold waitL waitD
  congr 1
  apply List.ext_getElem?
  intro j
  rw [List.getElem?_mapIdx, List.getElem?_map]
  by_cases h : j < q
  · rw [List.getElem?_range h]
    rfl
  · rw [List.getElem?_eq_none (by simp; omega)]
    rfl
theorem waitL_snoc (D : Dk) (a : Nat) (F : List UInt8) (l : List Nat) (x : Nat) : { waitL D a F l with waits := (waitL D a F l).waits ++ [(a + l.length, chunkB F D.n x)] } = waitL D a F (l ++ [x]) := by
  unfold waitL
  simp [List.mapIdx_append]
theorem RowIs.part {w : World} {b : Nat} {F : List UInt8} (h : RowIs w b F) (k n : Nat) : Sees w w.heap.size (some ⟨b, k, none⟩) (bv ((F.drop k).take n)) := by
  have h1 := h.sees.drop k (F.length + k + 1) (by rw [bv_length]; omega)
  rw [if_neg (by omega)] at h1
  have h2 := h1.take n
  rw [← bv_drop, ← bv_take] at h2
  by_cases hk : k = 0
  · subst hk
    simpa [Addr.add] using h2
  · simpa [Addr.add, hk] using h2

/-- cells stay where what is no cells is turned -/
theorem cells_turn {W W' : World} {row : Option Nat} (hg : W.grownBy W' row) (hr : ∀ r, row = some r → ∃ o : Obj, W.heap[r]? = some o ∧ o.isCells = false) {k : Nat} {cs : Array Value} {t : TypeId} {z : Nat × Nat} (h : W.heap[k]? = some (.cells cs t z)) : W'.heap[k]? = W.heap[k]? :=
  hg.block k (Array.getElem?_eq_some_iff.1 h).1 fun e => by
    obtain ⟨o, ho, hc⟩ := hr k e.symm
    rw [h] at ho
    injection ho with ho
    subst ho
    cases hc
/-- all but its map is cells -/
theorem DiskAt.has_cells {W : World} {L : Lay} {D : Dk} (h : DiskAt W L D) {g : Nat} (hg : L.has g) : g = L.m ∨ ∃ cs t z, W.heap[g]? = some (.cells cs t z) := by
  rcases hg with rfl | rfl | ⟨o, s, e⟩ | ⟨i, e⟩ | ⟨p, hp, rfl⟩
  · exact .inr ⟨_, _, _, h.box⟩
  · exact .inl rfl
  · obtain ⟨cur, hx⟩ := h.kA e
    exact .inr ⟨_, _, _, hx⟩
  · obtain ⟨cur, hx⟩ := h.kK e
    exact .inr ⟨_, _, _, hx⟩
  · obtain ⟨cur, hx⟩ := h.kG hp
    exact .inr ⟨_, _, _, hx⟩
theorem DiskAt.turn13 {W W' : World} {L : Lay} {D : Dk} {row : Option Nat} {B : Nat} (h : DiskAt W L D) (hm : L.m < B) (hg : W.grownBy W' row) (hr : ∀ r, row = some r → B ≤ r ∧ ∃ o : Obj, W.heap[r]? = some o ∧ o.isCells = false) : DiskAt W' L D := h.stay fun g hgh => by
  rcases h.has_cells hgh with rfl | ⟨cs, t, z, e⟩
  · exact hg.block _ h.map.lt fun e => by have := (hr _ e.symm).1; omega
  · exact cells_turn hg (fun r e => (hr r e).2) e
theorem DiskAt.keeps13 {W W' : World} {L : Lay} {D : Dk} {B : Nat} (h : DiskAt W L D) (hm : L.m < B) (hc : Chg L.has W W') : KeepsFrom B W W' := ⟨hc.size, fun k o hB hk ho => by
  refine (hc.block k (Array.getElem?_eq_some_iff.1 hk).1 fun hgh => ?_).trans hk
  rcases h.has_cells hgh with rfl | ⟨cs, t, z, e⟩
  · omega
  · rw [hk] at e
    injection e with e
    subst e
    cases ho⟩

/-- between two rounds of writeTo -/
structure InvT (w : World) (L : Lay) (D : Dk) (a b3 : Nat) (F : List UInt8) (l : List Nat) (v : Int) (L' : Lay) (W : World) : Prop where
  b : L'.b = L.b
  m : L'.m = L.m
  d : DiskAt W L' (waitL D a F l)
  c : Chg L.has w W
  hs : ∀ g, L'.has g → L.has g ∨ b3 + 5 ≤ g
  x3 : BoxAt W b3 #[.pointer (some ⟨L.b, 0, none⟩)] 25
  x4 : BoxAt W (b3 + 1) #[.int .i64 v] 3
  x6 : BoxAt W (b3 + 1 + 1) #[.int .i64 0] 26
  sz : b3 + 5 ≤ W.heap.size
section
variable {w W W' : World} {L L' : Lay} {D : Dk} {a b3 : Nat} {F : List UInt8} {l : List Nat} {v : Int}
theorem InvT.turn {row : Option Nat} (h : InvT w L D a b3 F l v L' W) (hL : L.m < w.heap.size) (hb : w.heap.size ≤ b3 + 5) (hg : W.grownBy W' row) (hr : ∀ r, row = some r → b3 + 5 ≤ r ∧ ∃ o : Obj, W.heap[r]? = some o ∧ o.isCells = false) : InvT w L D a b3 F l v L' W' :=
  have hrc := fun r e => (hr r e).2
  ⟨h.b, h.m, h.d.turn13 (by rw [h.m]; omega) hg hr, ⟨hg.os.trans h.c.os, hg.tape.trans h.c.tape, hg.output.trans h.c.output, Nat.le_trans h.c.size hg.size, fun k hk hn => (hg.block k (Nat.lt_of_lt_of_le hk h.c.size) (fun e => by have := (hr k e.symm).1; omega)).trans (h.c.block k hk hn)⟩, h.hs,
    (cells_turn hg hrc h.x3).trans h.x3, (cells_turn hg hrc h.x4).trans h.x4, (cells_turn hg hrc h.x6).trans h.x6, Nat.le_trans h.sz hg.size⟩
theorem InvT.apart (h : InvT w L D a b3 F l v L' W) (hb : ∀ g, L.has g → g < b3) {k : Nat} (h1 : b3 ≤ k) (h2 : k < b3 + 5) : ¬ L'.has k := fun e => by
  rcases h.hs k e with e | e
  · have := hb k e
    omega
  · omega
theorem InvT.wrote {x k : Nat} (hk : a + l.length = k) (h : InvT w L D a b3 F l v L' W) (hb : ∀ g, L.has g → g < b3) (hw : w.heap.size = b3) (hd : DoesM L' W W' { waitL D a F l with waits := (waitL D a F l).waits ++ [(k, chunkB F D.n x)] }) : ∃ L2, InvT w L D a b3 F (l ++ [x]) v L2 W' ∧ Chg L'.has W W' := by
  subst hk
  obtain ⟨L2, eb, em, hd2, hc, hs⟩ := hd
  have hne := fun k h1 h2 => h.apart hb (k := k) h1 h2
  have hsz := h.sz
  rw [waitL_snoc] at hd2
  refine ⟨L2, ⟨eb.trans h.b, em.trans h.m, hd2, h.c.trans hc (fun g e hg => ?_), fun g e => ?_, (hc.block _ h.x3.lt (hne _ (by omega) (by omega))).trans h.x3, (hc.block _ h.x4.lt (hne _ (by omega) (by omega))).trans h.x4, (hc.block _ h.x6.lt (hne _ (by omega) (by omega))).trans h.x6, Nat.le_trans h.sz hc.size⟩, hc⟩
  · rcases h.hs g e with e | e
    · exact e
    · omega
  · rcases hs g e with e | e
    · exact h.hs g e
    · exact .inr (by omega)
theorem InvT.bump (h : InvT w L D a b3 F l v L' W) (hb : ∀ g, L.has g → g < b3) (hw : w.heap.size = b3) (v' : Int) : InvT w L D a b3 F l v' L' (W.setCell ⟨b3 + 1, 0, none⟩ (.int .i64 v')) := by
  have hg := grown_cell9 W (b3 + 1) 0 (.int .i64 v')
  have hsz := h.sz
  have hne := h.apart hb (k := b3 + 1) (by omega) (by omega)
  have hk : ∀ k, k ≠ b3 + 1 → k < W.heap.size → (W.setCell ⟨b3 + 1, 0, none⟩ (.int .i64 v')).heap[k]? = W.heap[k]? := fun k hk hl => hg.block k hl (fun e => hk (by cases e; rfl))
  refine ⟨h.b, h.m, h.d.stay fun g hgh => hk g (fun e => hne (e ▸ hgh)) (h.d.lt hgh), ⟨hg.os.trans h.c.os, hg.tape.trans h.c.tape, hg.output.trans h.c.output, Nat.le_trans h.c.size hg.size, fun k hkl hn => (hk k (by omega) (Nat.lt_of_lt_of_le hkl h.c.size)).trans (h.c.block k hkl hn)⟩, h.hs,
    (hk _ (by omega) h.x3.lt).trans h.x3, ?_, (hk _ (by omega) h.x6.lt).trans h.x6, Nat.le_trans h.sz hg.size⟩
  have := h.x4.set9 0 (.int .i64 v')
  simpa using this
/-- the end: it is synced, the answer is laid, the loop's block for what is deferred is turned -/
theorem InvT.fin {W3 : World} {Dd : Nat} {D3 : Dk} {o o' : Obj} (h : InvT w L D a b3 F l v L' W) (hb : ∀ g, L.has g → g < b3) (hw : w.heap.size = b3) (hL : L.m < w.heap.size) (hD : b3 + 5 ≤ Dd) (hK : W.heap[Dd]? = some o) (ho : o.isCells = false) (hd : Does L' W W3 D3) :
    W3.heap[Dd]? = some o ∧ BoxAt W3 (b3 + 1 + 1) #[.int .i64 0] 26 ∧ Does L w ((W3.setCell ⟨b3 + 1 + 1, 0, none⟩ (.int .i64 0)).putObj Dd o') D3 := by
  obtain ⟨L3, eb, hd3, hc, hs⟩ := hd
  have hsz := h.sz
  have hDl : Dd < W.heap.size := (Array.getElem?_eq_some_iff.1 hK).1
  have hnD : ¬ L'.has Dd := fun e => by
    rcases h.d.has_cells e with e | ⟨cs, t, z, e⟩
    · rw [h.m] at e
      omega
    · rw [hK] at e
      injection e with e
      subst e
      cases ho
  have hn6 := h.apart hb (k := b3 + 1 + 1) (by omega) (by omega)
  have hK3 : W3.heap[Dd]? = some o := (hc.block _ hDl hnD).trans hK
  have hk : ∀ k, k ≠ b3 + 1 + 1 → k ≠ Dd → k < W3.heap.size → ((W3.setCell ⟨b3 + 1 + 1, 0, none⟩ (.int .i64 0)).putObj Dd o').heap[k]? = W3.heap[k]? := fun k h1 h2 hl => by
    rw [World.putObj_heap_other h2]
    exact (grown_cell9 W3 (b3 + 1 + 1) 0 (.int .i64 0)).block k hl (fun e => h1 (by cases e; rfl))
  have hg := grown_cell9 W3 (b3 + 1 + 1) 0 (.int .i64 0)
  have hs3 : W3.heap.size ≤ ((W3.setCell ⟨b3 + 1 + 1, 0, none⟩ (.int .i64 0)).putObj Dd o').heap.size := Nat.le_trans hg.size (grownBy_putObj' _ Dd o').size
  refine ⟨hK3, (hc.block _ h.x6.lt hn6).trans h.x6, L3, eb.trans h.b, hd3.stay fun g hgh => hk g (fun e => ?_) (fun e => ?_) (hd3.lt hgh), ?_, fun g e => ?_⟩
  · subst e
    rcases hs _ hgh with e | e
    · exact hn6 e
    · omega
  · subst e
    rcases hs _ hgh with e | e
    · exact hnD e
    · omega
  · have hc1 : Chg L.has w W3 := h.c.trans hc (fun g e hg => by
      rcases h.hs g e with e | e
      · exact e
      · omega)
    exact ⟨hc1.os, hc1.tape, hc1.output, Nat.le_trans hc1.size hs3, fun k hkl hn => (hk k (by omega) (by omega) (Nat.lt_of_lt_of_le hkl hc1.size)).trans (hc1.block k hkl hn)⟩
  · rcases hs g e with e | e
    · rcases h.hs g e with e | e
      · exact .inl e
      · exact .inr (by omega)
    · have := h.c.size
      exact .inr (by omega)
end

set_option maxRecDepth 100000 in
set_option maxHeartbeats 2000000 in
theorem writeTo_in (Fc : Fence) (fn : Nat) (h3 : Fc.fn 93) (h5 : Fc.fn 114) (h6 : Fc.fn 137) (hro : Fc.round = none) (hfn : 3 ≤ fn) (hw1 : Fc = .wide)
    {w : World} {L : Lay} {D : Dk} (h : DiskAt w L D) (hc : D.calm) (hw : D.waits = []) (a q z b cap : Nat) (A : Option Addr) (F : List UInt8) (hA : 0 < q → A = some ⟨b, 0, none⟩ ∧ RowIs w b F ∧ ¬ L.has b) (hF : F.length = z) (hz : q * D.n = z) (haq : a + q ≤ D.c) (hcap : z ≤ cap) :
    CallsIn Fc fn Try.prog 93 #[.pointer (some ⟨L.b, 0, none⟩), .int .i64 (a : Int), .slice A z cap] w fun e w' => e = .returned (.int .i64 0) ∧ Does L w w' (wroteD D a F) := by
  have h1 : 1 ≤ fn := by omega
  have hn1 := h.ok.n1
  have hn2 := h.ok.n2
  have hcc := h.ok.c2
  have HSZ := hide_ (show ∀ u, Below w.heap.size w u → Calls Try.prog 31 #[.pointer (some ⟨L.b, 0, none⟩)] u fun e w' => e = .returned (.int .i64 (D.n : Int)) ∧ u = w' from fun u hu => Size_any (h.below hu))
  subst hw1
  refine callsIn_of_wp_marks Try.func93 rfl h3 ?_ hro
  simp only [Try.ntmps93, List.size_toArray, List.length_cons, List.length_nil, Nat.reduceAdd, Nat.reduceSub, Array.replicate_succ, Array.replicate_zero, List.push_toArray, List.append_toArray, List.nil_append, List.cons_append]
  gi_wp2_with (first | (refine ⟨trivial, ?_⟩; gi_at_call 31; refine (callsIn_wide.2 (HSZ.out _ ((((Below.refl _ w).alloc (Nat.le_refl _) _).alloc (by simp) _).alloc (by simp; omega) _))).mono ?_; rintro e w' ⟨rfl, rfl⟩) | (gi_at_call 114; refine (chunk_in .wide (fn - 1) trivial hro _ _ _ _ hn1 _).mono ?_; rintro e w' ⟨rfl, rfl⟩))
  have hlt := fun g hg => h.lt (g := g) hg
  have hLm : L.m < w.heap.size := h.map.lt
  obtain ⟨W0, hW0⟩ : ∃ W, ((((w.alloc (.cells #[.pointer (some ⟨L.b, 0, none⟩)] 25)).alloc (.cells #[.int .i64 (a : Int)] 3)).alloc (.cells #[.int .i64 0] 26)).alloc (.cells #[.slice A z cap] 38)).alloc (.cells #[.int .i64 (D.n : Int)] 3) = W := ⟨_, rfl⟩
  have hB0 : Below w.heap.size w W0 := hW0 ▸ (((((Below.refl _ w).alloc (Nat.le_refl _) _).alloc (by simp) _).alloc (by simp; omega) _).alloc (by simp; omega) _).alloc (by simp; omega) _
  have x3 : BoxAt W0 w.heap.size #[.pointer (some ⟨L.b, 0, none⟩)] 25 := hW0 ▸ ((((BoxAt.new w _ _).alloc _).alloc _).alloc _).alloc _
  have x4 : BoxAt W0 (w.heap.size + 1) #[.int .i64 (a : Int)] 3 := by
    have := (((BoxAt.new (w.alloc (.cells #[.pointer (some ⟨L.b, 0, none⟩)] 25)) #[.int .i64 (a : Int)] 3).alloc (.cells #[.int .i64 0] 26)).alloc (.cells #[.slice A z cap] 38)).alloc (.cells #[.int .i64 (D.n : Int)] 3)
    rw [hW0] at this
    simpa using this
  have x6 : BoxAt W0 (w.heap.size + 1 + 1) #[.int .i64 0] 26 := by
    have := ((BoxAt.new ((w.alloc (.cells #[.pointer (some ⟨L.b, 0, none⟩)] 25)).alloc (.cells #[.int .i64 (a : Int)] 3)) #[.int .i64 0] 26).alloc (.cells #[.slice A z cap] 38)).alloc (.cells #[.int .i64 (D.n : Int)] 3)
    rw [hW0] at this
    simpa using this
  have xs : BoxAt W0 (w.heap.size + 1 + 1 + 1) #[.slice A z cap] 38 := by
    have := (BoxAt.new (((w.alloc (.cells #[.pointer (some ⟨L.b, 0, none⟩)] 25)).alloc (.cells #[.int .i64 (a : Int)] 3)).alloc (.cells #[.int .i64 0] 26)) #[.slice A z cap] 38).alloc (.cells #[.int .i64 (D.n : Int)] 3)
    rw [hW0] at this
    simpa using this
  have xn : BoxAt W0 (w.heap.size + 1 + 1 + 1 + 1) #[.int .i64 (D.n : Int)] 3 := by
    have := BoxAt.new ((((w.alloc (.cells #[.pointer (some ⟨L.b, 0, none⟩)] 25)).alloc (.cells #[.int .i64 (a : Int)] 3)).alloc (.cells #[.int .i64 0] 26)).alloc (.cells #[.slice A z cap] 38)) #[.int .i64 (D.n : Int)] 3
    rw [hW0] at this
    simpa using this
  have hsz : W0.heap.size = w.heap.size + 5 := by rw [← hW0]; simp
  have hI0 : InvT w L D a w.heap.size F [] (a : Int) L W0 := ⟨rfl, rfl, by rw [waitL_nil hw]; exact h.below hB0, Chg.of_below hB0, fun _ e => .inl e, x3, x4, x6, by omega⟩
  rw [hW0]
  obtain ⟨g, hg⟩ : ∃ g, w.heap.size = g := ⟨_, rfl⟩
  rw [hg] at hlt hLm x3 x4 x6 xs xn hsz hI0 ⊢
  have HG := hide_ hg
  have HA := hide_ hA
  have HF := hide_ hF
  have HZ := hide_ hz
  have HAQ := hide_ haq
  have HLT := hide_ hlt
  have HCA := hide_ hc
  have HOK := hide_ h.ok
  have hxs := xs.cell 0
  have hxn := xn.cell 0
  simp only [List.getElem?_toArray, List.getElem?_cons_zero] at hxs hxn
  clear hW0 hB0 hlt hF hz x3 x4 x6 hg
  refine wpIn_rangeFunc_ownH hro h1 (gf := 137) (lb := #[.pointer (some ⟨g + 1 + 1 + 1, 0, none⟩), .pointer (some ⟨g + 1 + 1 + 1 + 1, 0, none⟩)]) rfl h6 (enters_of Try.func137 (by kernel_rfl) rfl)
    (chunk_stops .wide (fn - 1) h6 hro (by omega) (g + 1 + 1 + 1) (g + 1 + 1 + 1 + 1) b D.n q z cap A (fun h0 => (hA h0).1) hn1 hn2 (by omega) HZ.out hcap W0 (by omega) (by omega) hxs hxn) keeps2_t (keeps2_b (by omega) (by omega)) (Below.refl _ _) (fun _ => rfl)
    (fun pre W => ∃ L', InvT w L D a g F (pre.map (·.1)) ((a + pre.length : Nat) : Int) L' W)
    (fun _ _ _ => False)
    (fun s X Y row ⟨L', hs⟩ hg hr => ⟨L', hs.turn (by rw [HG.out]; exact hLm) (by rw [HG.out]; omega) hg (by rw [hsz] at hr; exact hr)⟩)
    (fun _ _ _ _ _ hs _ _ => hs.elim)
    ⟨L, hI0⟩
    (fun x a' _ => a' = { tmps := #[.pointer (some ⟨L.b, 0, none⟩), .int .i64 (a : Int), .slice A z cap, .pointer (some ⟨g, 0, none⟩), .pointer (some ⟨g + 1, 0, none⟩), undef, .pointer (some ⟨g + 1 + 1, 0, none⟩), .slice (some ⟨b, x.1 * D.n, none⟩) D.n D.n, undef, .slice A z cap, .pointer (some ⟨L.b, 0, none⟩), .int .i64 (D.n : Int), .func (.func 137) #[] #[.pointer (some ⟨g + 1 + 1 + 1, 0, none⟩), .pointer (some ⟨g + 1 + 1 + 1 + 1, 0, none⟩)], .slice (some ⟨b, x.1 * D.n, none⟩) D.n D.n, undef, undef, undef, undef, undef, undef, undef, undef, undef, undef, undef], defers := [] })
    (fun _ _ _ _ _ _ hs _ _ => hs)
    ?assign ?body ?done ?stop
  case assign =>
    rintro l pre ⟨x, hx⟩ W K hi hK
    simp only [part13]
    gi_wp2
    exact hK _ _ (KeepsFrom.refl _ _) ⟨rfl, rfl⟩ hi rfl
  case body =>
    rintro l pre ⟨x, hx⟩ a' W hl _ ⟨L', hi⟩ rfl hlt
    have hpl : (pre.map (·.1)).length = pre.length := List.length_map _
    have c3 := hi.x3.cell 0
    have c4 := hi.x4.cell 0
    simp only [List.getElem?_toArray, List.getElem?_cons_zero] at c3 c4
    have hcl := chunk_len (HF.out.trans HZ.out.symm) hx
    have hrow : RowIs W b F := by
      obtain ⟨e1, e2, e3⟩ := HA.out (by omega)
      exact e2.stay12 (hi.c.block _ e2.lt e3)
    have HWR := hide_ (Write_calm hi.d (show (waitL D a F (pre.map (·.1))).calm from HCA.out) (a + (pre.map (·.1)).length) (show a + (pre.map (·.1)).length < D.c from by have := HAQ.out; omega) (chunkB F D.n x) W.heap.size (some ⟨b, x * D.n, none⟩) D.n D.n (hrow.part _ _) hcl hcl (Nat.le_refl _) (by
      show (List.mapIdx _ _).length + 1 ≤ _
      rw [List.length_mapIdx]
      omega))
    rw [hi.b, hpl] at HWR
    obtain ⟨k, hk⟩ : ∃ k, a + pre.length = k := ⟨_, rfl⟩
    rw [hk] at HWR c4 hi
    have HK := hide_ hk
    have HI := hide_ hi
    have hpl2 := hide_ hpl
    have hk9 : k ≤ 4096 := by have := HAQ.out; omega
    clear hcl hrow hi hk hpl
    gi_wp2_with (refine ⟨trivial, fun _ => by omega, ?_⟩; gi_at_call 115; refine (CallsIn.inRound l (callsIn_wide.2 HWR.out)).mono ?_; rintro e W1 ⟨rfl, hd1⟩; (obtain ⟨L2, hi2, hc2⟩ := InvT.wrote (by rw [hpl2.out]; exact HK.out) HI.out HLT.out HG.out hd1); (have c41 := hi2.x4.cell 0); (simp only [List.getElem?_toArray, List.getElem?_cons_zero] at c41); (have f41 := hi2.x4.free9 0); (have HI2 := hide_ hi2); (have HC2 := hide_ hc2); clear hi2 hc2 hd1)
    have hLm' : L'.m < W0.heap.size := by rw [HI.out.m]; omega
    have hsW := HI.out.sz
    have hn1 := HI.out.apart HLT.out (k := g + 1 + 1 + 1) (by omega) (by omega)
    have hn2 := HI.out.apart HLT.out (k := g + 1 + 1 + 1 + 1) (by omega) (by omega)
    refine ⟨(HI.out.d.keeps13 hLm' HC2.out).trans ((KeepsOthers.setCell _ _ _).from _), ⟨?_, ?_⟩, L2, ?_⟩
    · exact ((grown_cell9 W1 (g + 1) 0 _).block _ (by have := HC2.out.size; omega) (fun e => by cases e)).trans (HC2.out.block _ (by omega) hn1)
    · exact ((grown_cell9 W1 (g + 1) 0 _).block _ (by have := HC2.out.size; omega) (fun e => by cases e)).trans (HC2.out.block _ (by omega) hn2)
    · have hb := HI2.out.bump HLT.out HG.out ((k : Int) + 1)
      rw [List.map_append, List.length_append]
      have e1 : ((a + (pre.length + [(⟨x, hx⟩ : { x : Nat // x < q })].length) : Nat) : Int) = (k : Int) + 1 := by
        have := HK.out
        simp only [List.length_cons, List.length_nil]
        omega
      rw [e1]
      exact hb
  case done =>
    rintro Dd xs W hD hxs ⟨L', hi⟩ hK
    rw [hxs] at hi
    have hlx : xs.length = q := by
      have := congrArg List.length hxs
      simpa using this
    have hce := waitL_range D a F q
    obtain ⟨s1, s2⟩ := waitD_sync HCA.out HOK.out (a := a) (HF.out.trans HZ.out.symm)
    have HSY := hide_ (Sync_any hi.d)
    unfold Syncs at HSY
    rw [hce, s1, s2, hi.b] at HSY
    have c3 := hi.x3.cell 0
    simp only [List.getElem?_toArray, List.getElem?_cons_zero] at c3
    have HI := hide_ hi
    have HKD := hide_ hK
    have HDS := hide_ (show g + 5 ≤ Dd from by rw [← hsz]; exact hD)
    clear hi hK hce s1 s2 hD hxs
    gi_wp2_with (refine ⟨trivial, ?_⟩; gi_at_call 116; refine (callsIn_wide.2 HSY.out).mono ?_; rintro e W3 ⟨rfl, hd3⟩; (obtain ⟨k3, x63, hdo⟩ := HI.out.fin (o' := .deferred none) HLT.out HG.out (by rw [HG.out]; exact hLm) HDS.out HKD.out rfl hd3); (have c63 := x63.cell 0); (simp only [List.getElem?_toArray, List.getElem?_cons_zero] at c63); (have f63 := x63.free9 0); (have X63 := hide_ x63); (have K3 := hide_ k3); (have HDO := hide_ hdo); clear hd3 x63 k3 hdo)
    have hK' : (W3.setCell ⟨g + 1 + 1, 0, none⟩ (.int .i64 0)).heap[Dd]? = some (.deferred (some [])) := (KeepsOthers.setCell W3 ⟨g + 1 + 1, 0, none⟩ (.int .i64 0)).same Dd _ K3.out rfl
    refine ⟨by simp, .inl ⟨_, _, rfl, run_takeDeferred hK', ?_⟩⟩
    have h6 := X63.out.set9 0 (.int .i64 0)
    have hc5 : ((W3.setCell ⟨g + 1 + 1, 0, none⟩ (.int .i64 0)).putObj Dd (.deferred none)).cell? ⟨g + 1 + 1, 0, none⟩ = some (.int .i64 0) :=
      (World.cell?_of_block (a := ⟨g + 1 + 1, 0, none⟩) (World.putObj_heap_other (by have := HDS.out; show g + 1 + 1 ≠ Dd; omega))).trans (by have := BoxAt.cell h6 0; simpa using this)
    refine ⟨.int .i64 0, by simp [results, Try.f93, go_sem, hc5], rfl, HDO.out⟩
  case stop =>
    rintro Dd c pre W hD hpre hs hK
    exact hs.elim

theorem writeTo_any {w : World} {L : Lay} {D : Dk} (h : DiskAt w L D) (hc : D.calm) (hw : D.waits = []) (a q z b cap : Nat) (A : Option Addr) (F : List UInt8) (hA : 0 < q → A = some ⟨b, 0, none⟩ ∧ RowIs w b F ∧ ¬ L.has b) (hF : F.length = z) (hz : q * D.n = z) (haq : a + q ≤ D.c) (hcap : z ≤ cap) :
    Calls Try.prog 93 #[.pointer (some ⟨L.b, 0, none⟩), .int .i64 (a : Int), .slice A z cap] w fun e w' => e = .returned (.int .i64 0) ∧ Does L w w' (wroteD D a F) :=
  (callsIn_wide (n := 6)).1 (writeTo_in .wide 6 trivial trivial trivial rfl (by omega) rfl h hc hw a q z b cap A F hA hF hz haq hcap)
end Go.Proofs.Ytecbpmnolgkllaa
