/-
  Texts of this claim put together: Put7.
-/
import Derived.Test.YtpiikdinphnjbaaGreatJ42
import Derived.Laws.IdiomCopy
/-
  engine's put at two types.
-/
namespace Go.Proofs.YtpiikdinphnjbaaGreat
open Go.RowKit

theorem own_setCells {lo q g n c : Nat} {e : TypeId} : ∀ (vs : List Value) (o : Nat) (w : World) (xs : List Value), w.ownsRow lo e q (.slice (some ⟨g, 0, none⟩) n c) n xs → o + vs.length ≤ xs.length →
    (w.setCells g o vs).ownsRow lo e q (.slice (some ⟨g, 0, none⟩) n c) n (xs.take o ++ vs ++ xs.drop (o + vs.length)) ∧ w.grownBy (w.setCells g o vs) (some g) ∧ (w.setCells g o vs).heap.size = w.heap.size
  | [], o, w, xs, h, _ => by
    rw [World.setCells, List.append_nil, List.length_nil, Nat.add_zero, List.take_append_drop]
    exact ⟨h, World.grownBy.refl _ _, rfl⟩
  | v :: vs, o, w, xs, h, hl => by
    obtain ⟨h1, h2⟩ := h.stored o v
    have ih := own_setCells vs (o + 1) (w.setCell ⟨g, o, none⟩ v) (xs.set o v) h1 (by rw [List.length_set]; simp at hl; omega)
    rw [World.setCells]
    refine ⟨?_, ⟨ih.2.1.os.trans h2.os, ih.2.1.tape.trans h2.tape, ih.2.1.output.trans h2.output, Nat.le_trans h2.size ih.2.1.size, fun k hk hne => (ih.2.1.block k (Nat.lt_of_lt_of_le hk h2.size) hne).trans (h2.block k hk hne)⟩, ih.2.2.trans (by simp [World.setCell])⟩
    have e1 := list_seg_step xs o v vs (by simp at hl; omega)
    rw [e1] at ih
    exact ih.1
theorem flat_over {α β : Type} {cs : α → List β} {q : Nat} (hcs : ∀ x, (cs x).length = q) {l : List α} {i : Nat} {d : α} (hi : i < l.length) : (l.flatMap cs).take (i * q) ++ cs d ++ (l.flatMap cs).drop (i * q + (cs d).length) = (l.set i d).flatMap cs := by
  rw [hcs, ← Nat.succ_mul, flat_take hcs, flat_drop hcs, List.set_eq_take_append_cons_drop, if_pos hi, List.flatMap_append, List.flatMap_cons, List.append_assoc]
theorem grown_late {w w1 w2 : World} {row : Option Nat} (h1 : Below w.heap.size w w1) (h2 : w1.grownBy w2 row) : w.grownBy w2 row :=
  ⟨h2.os.trans h1.os, h2.tape.trans h1.tape, h2.output.trans h1.output, Nat.le_trans h1.size h2.size, fun k hk hne => (h2.block k (Nat.lt_of_lt_of_le hk h1.size) hne).trans (h1.block k hk)⟩
theorem put_where {α : Type} {key : α → Int} {l : List α} {d : α} {i : Nat} (hr : Ris key l) (h1 : ∀ t x, i ≤ t → l[t]? = some x → key d ≤ key x) (h2 : ∀ y, l[i]? = some y → key y ≠ key d) : ∀ t x, i ≤ t → l[t]? = some x → key d < key x := by
  intro t x ht hx
  obtain ⟨h3, hx3⟩ := List.getElem?_eq_some_iff.1 hx
  have hi := List.getElem?_eq_getElem (show i < l.length by omega)
  have h4 := h1 i _ (Nat.le_refl _) hi
  have h5 := h2 _ hi
  by_cases e : t = i
  · subst e
    rw [hx] at hi
    injection hi with hi
    rw [← hi] at h4 h5
    omega
  · have := List.pairwise_iff_getElem.1 hr i t (by omega) h3 (by omega)
    rw [hx3] at this
    omega
/-- what put leaves -/
def PutOut {α : Type} (lo : Nat) (T : TypeId) (q : Nat) (cs : α → List Value) (r : List α) (row : Option Nat) (w : World) (e : Ending) (w' : World) : Prop :=
  ∃ A' c', e = .returned (.slice A' r.length c') ∧ w'.ownsRow lo T q (.slice A' r.length c') r.length (r.flatMap cs) ∧ w.grownBy w' row


theorem put1Done_any (x : DoneM) (k : Int) (zb : Nat) (w : World) (h : BoxAt w zb #[.func (.func 46) #[] #[]] 93) :
    Calls Tryz.prog 68 #[DoneM.v x, .int .u8 k, .pointer (some ⟨zb, 0, none⟩)] w fun e w' => e = .returned (.int .i64 (cmp8 ((fun d : DoneM => d.cl) x) k)) ∧ Below w.heap.size w w' := by
  have HN1 := hide_ (fun (u : World) => note1_any x u)
  have HC := hide_ (fun (a b : Int) (u : World) => compare8 a b u)
  have HX := hide_ h
  obtain ⟨z, hz⟩ : ∃ z, cmp8 ((fun d : DoneM => d.cl) x) k = z := ⟨_, rfl⟩
  have HZ := hide_ hz
  rw [hz]
  clear h hz
  obtain ⟨cl, sq, er, inc, st, ⟨vA, vc, va⟩⟩ := x
  simp only [DoneM.v, Sl.v] at HN1 ⊢
  have HW := hide_ (show Below w.heap.size w (w.alloc (.cells #[.int .u8 cl, .int .u64 sq, .int .i64 er, .int .u64 inc, .int .i64 st, .slice vA va.length vc] 63)) from (Below.refl _ _).alloc (Nat.le_refl _) _)
  have hcx := (HX.out.alloc (.cells #[.int .u8 cl, .int .u64 sq, .int .i64 er, .int .u64 inc, .int .i64 st, .slice vA va.length vc] 63)).cell
  have hz1 : zb < w.heap.size := HX.out.lt
  go_enter Tryz.func68, Tryz.ntmps68
  go_wp2_with fail
  refine (HN1.out _).mono ?_
  rintro e1 w1 ⟨rfl, hb1⟩
  have HB1 := hide_ (HW.out.trans (hb1.mono (by simp)))
  clear hb1 hcx
  go_wp2_with fail
  refine (HC.out _ _ _).mono ?_
  rintro e2 w2 ⟨rfl, rfl⟩
  go_wp2
  go_ret
  exact ⟨ret_i64T HZ.out, HB1.out⟩


set_option maxRecDepth 100000 in
set_option maxHeartbeats 6400000 in
theorem ptInDone_any (A : Option Addr) (n c : Nat) (l : List DoneM) (d : DoneM) (lo : Nat) (w : World) (h : w.ownsRow lo 63 6 (.slice A n c) n (l.flatMap DoneM.cs)) (hl : l.length = n) (hn : n ≤ 50) (hlo : lo ≤ w.heap.size) (hr : Ris (fun d : DoneM => d.cl) l) :
    Calls Tryz.prog 45 #[.slice A n c, DoneM.v d, .func (.func 46) #[] #[]] w (PutOut lo 63 6 DoneM.cs (putL (fun d : DoneM => d.cl) l d) (Value.slice A n c).ownBlock w) := by
  have HO := hide_ h
  have HL := hide_ hl
  have HR := hide_ hr
  have HN1 := hide_ (fun (u : World) => note1_any d u)
  have HBS := hide_ (fun (zb : Nat) (u : World) (hu : Below w.heap.size w u) (hx : BoxAt u zb #[.func (.func 46) #[] #[]] 93) => bsDone_any 68 #[.pointer (some ⟨zb, 0, none⟩)] ((fun d : DoneM => d.cl) d) A n c l u.heap.size u hl (by omega) (Sees.ownRow (own_below h hu)) (Nat.le_refl _) (fun _ _ => rfl) (fun x wr hb => put1Done_any x ((fun d : DoneM => d.cl) d) zb wr (hx.below hb)) hr)
  have HIN := hide_ (fun (i vb : Nat) (u : World) (hi : i ≤ n) (hu : Below w.heap.size w u) (hv : w.heap.size ≤ vb) (hb : BoxAt u vb (DoneM.cs d).toArray 63) => insDone_any A n c 1 i vb l d lo u 63 (own_below h hu) hl hn (Nat.le_trans hlo hu.size) hi hb (fun e => by have := (h.lt vb e).2; omega))
  have HDC := hide_ (show DoneM.cs d = (DoneM.v d).cells.toList from rfl)
  obtain ⟨R, hR⟩ : ∃ R, putL (fun d : DoneM => d.cl) l d = R := ⟨_, rfl⟩
  have HNOT := hide_ (fun (i : Nat) (h1 : ∀ t x, t < i → l[t]? = some x → (fun d : DoneM => d.cl) x < (fun d : DoneM => d.cl) d) (h2 : ∀ t x, i ≤ t → l[t]? = some x → (fun d : DoneM => d.cl) d ≤ (fun d : DoneM => d.cl) x) (h3 : ∀ y, l[i]? = some y → (fun d : DoneM => d.cl) y ≠ (fun d : DoneM => d.cl) d) => show l.take i ++ d :: l.drop i = R by rw [← hR]; exact (putL_not h1 (put_where hr h2 h3)).symm)
  have HIS := hide_ (fun (i : Nat) (y : DoneM) (h1 : l[i]? = some y) (h2 : (fun d : DoneM => d.cl) y = (fun d : DoneM => d.cl) d) => show l.set i d = R by rw [← hR]; exact (putL_there hr h1 h2).symm)
  rw [hR]
  clear h hl hr hR
  obtain ⟨cl, sq, er, inc, st, ⟨vA, vc, va⟩⟩ := d
  simp only [DoneM.v, Sl.v, DoneM.cs] at HN1 HBS HIN ⊢
  obtain ⟨W0, hW0⟩ : ∃ W0, (w.alloc (.cells #[.int .u8 cl, .int .u64 sq, .int .i64 er, .int .u64 inc, .int .i64 st, .slice vA va.length vc] 63)).alloc (.cells #[.func (.func 46) #[] #[]] 93) = W0 := ⟨_, rfl⟩
  have HX := hide_ (show BoxAt W0 w.heap.size #[.int .u8 cl, .int .u64 sq, .int .i64 er, .int .u64 inc, .int .i64 st, .slice vA va.length vc] 63 from hW0 ▸ (BoxAt.new w _ _).alloc _)
  have HF := hide_ (show BoxAt W0 (w.heap.size + 1) #[.func (.func 46) #[] #[]] 93 from by
    have h := BoxAt.new (w.alloc (.cells #[.int .u8 cl, .int .u64 sq, .int .i64 er, .int .u64 inc, .int .i64 st, .slice vA va.length vc] 63)) #[.func (.func 46) #[] #[]] 93
    rw [hW0] at h
    simpa using h)
  have HB0 := hide_ (show Below w.heap.size w W0 from hW0 ▸ ((Below.refl _ _).alloc (Nat.le_refl _) _).alloc (by simp) _)
  have HW0 := hide_ hW0
  clear hW0
  go_enter Tryz.func45, Tryz.ntmps45
  go_wp2_with fail
  rw [HW0.out]
  refine (HN1.out _).mono ?_
  rintro e1 w1 ⟨rfl, hb1⟩
  have HB1 := hide_ (HB0.out.trans (hb1.mono HB0.out.size))
  have HX1 := hide_ (HX.out.below hb1)
  have HF1 := hide_ (HF.out.below hb1)
  clear hb1
  go_wp2_with fail
  refine (HBS.out (w.heap.size + 1) w1 HB1.out HF1.out).mono ?_
  rintro e2 w2 ⟨i, there, rfl, hb2, hin, h1, h2, h3, h4⟩
  have HB2 := hide_ (HB1.out.trans (hb2.mono HB1.out.size))
  have HX2 := hide_ (HX1.out.below hb2)
  have H1 := hide_ h1
  have H2 := hide_ h2
  have H3 := hide_ h3
  have H4 := hide_ h4
  clear hb2 h1 h2 h3 h4
  have hcx := HX2.out.cell
  have hz1 : w.heap.size < w2.heap.size := HX2.out.lt
  cases there with
  | false =>
    have HQ := hide_ (HNOT.out i H1.out H2.out (H4.out rfl))
    have HX3 := hide_ (show BoxAt (w2.alloc (.cells #[.int .u8 cl, .int .u64 sq, .int .i64 er, .int .u64 inc, .int .i64 st, .slice vA va.length vc] 63)) w2.heap.size #[.int .u8 cl, .int .u64 sq, .int .i64 er, .int .u64 inc, .int .i64 st, .slice vA va.length vc] 63 from BoxAt.new w2 _ _)
    have HB3 := hide_ (HB2.out.alloc HB2.out.size (.cells #[.int .u8 cl, .int .u64 sq, .int .i64 er, .int .u64 inc, .int .i64 st, .slice vA va.length vc] 63))
    go_wp2_with fail
    refine (HIN.out i w2.heap.size _ hin HB3.out HB2.out.size HX3.out).mono ?_
    rintro e3 w3 ⟨A3, c3, rfl, ho3, hb3⟩
    have HO3 := hide_ ho3
    have HB4 := hide_ (grown_late HB3.out hb3)
    clear ho3 hb3 hcx
    go_wp2
    go_ret
    have hq := HQ.out
    have hrl : R.length = n + 1 := by rw [← hq]; simp only [List.length_append, List.length_cons, List.length_take, List.length_drop, HL.out]; omega
    refine ⟨A3, c3, by rw [hrl]; rfl, ?_, HB4.out⟩
    rw [hrl, ← hq]
    exact HO3.out
  | true =>
    obtain ⟨y, hy, hyk⟩ := H3.out rfl
    have hlt : i < n := by have := (List.getElem?_eq_some_iff.1 hy).1; have := HL.out; omega
    have HO2' := own_below HO.out HB2.out
    obtain ⟨g, rfl, hg1, hg2, -⟩ := own_some HO2' (by omega)
    have HO2 := hide_ HO2'
    have HY := hide_ hy
    have HQ := hide_ (HIS.out i y hy hyk)
    clear hy hyk HO2' HIN HBS HN1
    obtain ⟨U, hU⟩ : ∃ U, w2.setCells g (i * 6) [.int .u8 cl, .int .u64 sq, .int .i64 er, .int .u64 inc, .int .i64 st, .slice vA va.length vc] = U := ⟨_, rfl⟩
    have hU2 := own_setCells [.int .u8 cl, .int .u64 sq, .int .i64 er, .int .u64 inc, .int .i64 st, .slice vA va.length vc] (i * 6) w2 _ HO2.out (by rw [flat_len (q := 6) (fun _ => rfl), HL.out]; simp; omega)
    rw [hU] at hU2
    have HU := hide_ (show ((((((w2.setCell ⟨g, i * 6, none⟩ (.int .u8 cl)).setCell ⟨g, i * 6 + 1, none⟩ (.int .u64 sq)).setCell ⟨g, i * 6 + 2, none⟩ (.int .i64 er)).setCell ⟨g, i * 6 + 3, none⟩ (.int .u64 inc)).setCell ⟨g, i * 6 + 4, none⟩ (.int .i64 st)).setCell ⟨g, i * 6 + 5, none⟩ (.slice vA va.length vc)) = U from hU)
    have HOW := hide_ hU2.1
    have HGR := hide_ hU2.2.1
    clear hU hU2
    obtain ⟨ycl, ysq, yer, yinc, yst, ⟨yA, yc, yl⟩⟩ := y
    have e0 : w2.cell? ⟨g, i * 6, none⟩ = some (.int .u8 ycl) := by
      rw [HO2.out.cellAt (i * 6) (by omega)]
      exact (flat_get (cs := DoneM.cs) (q := 6) (fun _ => rfl) l i 0 _ HY.out (by omega)).trans rfl
    have f0 : w2.frozen? ⟨g, i * 6, none⟩ = false := HO2.out.frozenAt _
    have e1 : w2.cell? ⟨g, i * 6 + 1, none⟩ = some (.int .u64 ysq) := by
      rw [HO2.out.cellAt (i * 6 + 1) (by omega)]
      exact (flat_get (cs := DoneM.cs) (q := 6) (fun _ => rfl) l i 1 _ HY.out (by omega)).trans rfl
    have f1 : w2.frozen? ⟨g, i * 6 + 1, none⟩ = false := HO2.out.frozenAt _
    have e2 : w2.cell? ⟨g, i * 6 + 2, none⟩ = some (.int .i64 yer) := by
      rw [HO2.out.cellAt (i * 6 + 2) (by omega)]
      exact (flat_get (cs := DoneM.cs) (q := 6) (fun _ => rfl) l i 2 _ HY.out (by omega)).trans rfl
    have f2 : w2.frozen? ⟨g, i * 6 + 2, none⟩ = false := HO2.out.frozenAt _
    have e3 : w2.cell? ⟨g, i * 6 + 3, none⟩ = some (.int .u64 yinc) := by
      rw [HO2.out.cellAt (i * 6 + 3) (by omega)]
      exact (flat_get (cs := DoneM.cs) (q := 6) (fun _ => rfl) l i 3 _ HY.out (by omega)).trans rfl
    have f3 : w2.frozen? ⟨g, i * 6 + 3, none⟩ = false := HO2.out.frozenAt _
    have e4 : w2.cell? ⟨g, i * 6 + 4, none⟩ = some (.int .i64 yst) := by
      rw [HO2.out.cellAt (i * 6 + 4) (by omega)]
      exact (flat_get (cs := DoneM.cs) (q := 6) (fun _ => rfl) l i 4 _ HY.out (by omega)).trans rfl
    have f4 : w2.frozen? ⟨g, i * 6 + 4, none⟩ = false := HO2.out.frozenAt _
    have e5 : w2.cell? ⟨g, i * 6 + 5, none⟩ = some (.slice yA yl.length yc) := by
      rw [HO2.out.cellAt (i * 6 + 5) (by omega)]
      exact (flat_get (cs := DoneM.cs) (q := 6) (fun _ => rfl) l i 5 _ HY.out (by omega)).trans rfl
    have f5 : w2.frozen? ⟨g, i * 6 + 5, none⟩ = false := HO2.out.frozenAt _
    go_wp2
    rw [HU.out]
    go_ret
    have hq := HQ.out
    have hrl : R.length = n := by rw [← hq, List.length_set]; exact HL.out
    refine ⟨some ⟨g, 0, none⟩, c, by rw [hrl]; rfl, ?_, grown_late HB2.out HGR.out⟩
    rw [hrl, ← hq, ← flat_over (cs := DoneM.cs) (q := 6) (fun _ => rfl) (by rw [HL.out]; exact hlt)]
    exact HOW.out


theorem consume1_any (d : MrkM) (w : World) : Calls Tryz.prog 64 #[mrkV d] w fun e w' => e = .returned (.int .u8 d.1) ∧ Below w.heap.size w w' := by
  obtain ⟨ms, mi, mx⟩ := d
  simp only [mrkV]
  go_enter Tryz.func64, Tryz.ntmps64
  go_wp2
  go_ret
  exact ⟨rfl, (Below.refl _ _).alloc (Nat.le_refl _) _⟩


theorem put1Mark_any (x : MrkM) (k : Int) (zb : Nat) (w : World) (h : BoxAt w zb #[.func (.func 64) #[] #[]] 108) :
    Calls Tryz.prog 94 #[mrkV x, .int .u8 k, .pointer (some ⟨zb, 0, none⟩)] w fun e w' => e = .returned (.int .i64 (cmp8 ((fun d : MrkM => d.1) x) k)) ∧ Below w.heap.size w w' := by
  have HN1 := hide_ (fun (u : World) => consume1_any x u)
  have HC := hide_ (fun (a b : Int) (u : World) => compare8 a b u)
  have HX := hide_ h
  obtain ⟨z, hz⟩ : ∃ z, cmp8 ((fun d : MrkM => d.1) x) k = z := ⟨_, rfl⟩
  have HZ := hide_ hz
  rw [hz]
  clear h hz
  obtain ⟨ms, mi, mx⟩ := x
  simp only [mrkV] at HN1 ⊢
  have HW := hide_ (show Below w.heap.size w (w.alloc (.cells #[.int .u8 ms, .int .u64 mi, .int .u64 mx] 65)) from (Below.refl _ _).alloc (Nat.le_refl _) _)
  have hcx := (HX.out.alloc (.cells #[.int .u8 ms, .int .u64 mi, .int .u64 mx] 65)).cell
  have hz1 : zb < w.heap.size := HX.out.lt
  go_enter Tryz.func94, Tryz.ntmps94
  go_wp2_with fail
  refine (HN1.out _).mono ?_
  rintro e1 w1 ⟨rfl, hb1⟩
  have HB1 := hide_ (HW.out.trans (hb1.mono (by simp)))
  clear hb1 hcx
  go_wp2_with fail
  refine (HC.out _ _ _).mono ?_
  rintro e2 w2 ⟨rfl, rfl⟩
  go_wp2
  go_ret
  exact ⟨ret_i64T HZ.out, HB1.out⟩


set_option maxRecDepth 100000 in
set_option maxHeartbeats 6400000 in
theorem ptInMark_any (A : Option Addr) (n c : Nat) (l : List MrkM) (d : MrkM) (lo : Nat) (w : World) (h : w.ownsRow lo 65 3 (.slice A n c) n (l.flatMap mrkC)) (hl : l.length = n) (hn : n ≤ 50) (hlo : lo ≤ w.heap.size) (hr : Ris (fun d : MrkM => d.1) l) :
    Calls Tryz.prog 63 #[.slice A n c, mrkV d, .func (.func 64) #[] #[]] w (PutOut lo 65 3 mrkC (putL (fun d : MrkM => d.1) l d) (Value.slice A n c).ownBlock w) := by
  have HO := hide_ h
  have HL := hide_ hl
  have HR := hide_ hr
  have HN1 := hide_ (fun (u : World) => consume1_any d u)
  have HBS := hide_ (fun (zb : Nat) (u : World) (hu : Below w.heap.size w u) (hx : BoxAt u zb #[.func (.func 64) #[] #[]] 108) => bsMark_any 94 #[.pointer (some ⟨zb, 0, none⟩)] ((fun d : MrkM => d.1) d) A n c l u.heap.size u hl (by omega) (Sees.ownRow (own_below h hu)) (Nat.le_refl _) (fun _ _ => rfl) (fun x wr hb => put1Mark_any x ((fun d : MrkM => d.1) d) zb wr (hx.below hb)) hr)
  have HIN := hide_ (fun (i vb : Nat) (u : World) (hi : i ≤ n) (hu : Below w.heap.size w u) (hv : w.heap.size ≤ vb) (hb : BoxAt u vb (mrkC d).toArray 65) => insMark_any A n c 1 i vb l d lo u 65 (own_below h hu) hl hn (Nat.le_trans hlo hu.size) hi hb (fun e => by have := (h.lt vb e).2; omega))
  have HDC := hide_ (show mrkC d = (mrkV d).cells.toList from rfl)
  obtain ⟨R, hR⟩ : ∃ R, putL (fun d : MrkM => d.1) l d = R := ⟨_, rfl⟩
  have HNOT := hide_ (fun (i : Nat) (h1 : ∀ t x, t < i → l[t]? = some x → (fun d : MrkM => d.1) x < (fun d : MrkM => d.1) d) (h2 : ∀ t x, i ≤ t → l[t]? = some x → (fun d : MrkM => d.1) d ≤ (fun d : MrkM => d.1) x) (h3 : ∀ y, l[i]? = some y → (fun d : MrkM => d.1) y ≠ (fun d : MrkM => d.1) d) => show l.take i ++ d :: l.drop i = R by rw [← hR]; exact (putL_not h1 (put_where hr h2 h3)).symm)
  have HIS := hide_ (fun (i : Nat) (y : MrkM) (h1 : l[i]? = some y) (h2 : (fun d : MrkM => d.1) y = (fun d : MrkM => d.1) d) => show l.set i d = R by rw [← hR]; exact (putL_there hr h1 h2).symm)
  rw [hR]
  clear h hl hr hR
  obtain ⟨ms, mi, mx⟩ := d
  simp only [mrkV, mrkC] at HN1 HBS HIN ⊢
  obtain ⟨W0, hW0⟩ : ∃ W0, (w.alloc (.cells #[.int .u8 ms, .int .u64 mi, .int .u64 mx] 65)).alloc (.cells #[.func (.func 64) #[] #[]] 108) = W0 := ⟨_, rfl⟩
  have HX := hide_ (show BoxAt W0 w.heap.size #[.int .u8 ms, .int .u64 mi, .int .u64 mx] 65 from hW0 ▸ (BoxAt.new w _ _).alloc _)
  have HF := hide_ (show BoxAt W0 (w.heap.size + 1) #[.func (.func 64) #[] #[]] 108 from by
    have h := BoxAt.new (w.alloc (.cells #[.int .u8 ms, .int .u64 mi, .int .u64 mx] 65)) #[.func (.func 64) #[] #[]] 108
    rw [hW0] at h
    simpa using h)
  have HB0 := hide_ (show Below w.heap.size w W0 from hW0 ▸ ((Below.refl _ _).alloc (Nat.le_refl _) _).alloc (by simp) _)
  have HW0 := hide_ hW0
  clear hW0
  go_enter Tryz.func63, Tryz.ntmps63
  go_wp2_with fail
  rw [HW0.out]
  refine (HN1.out _).mono ?_
  rintro e1 w1 ⟨rfl, hb1⟩
  have HB1 := hide_ (HB0.out.trans (hb1.mono HB0.out.size))
  have HX1 := hide_ (HX.out.below hb1)
  have HF1 := hide_ (HF.out.below hb1)
  clear hb1
  go_wp2_with fail
  refine (HBS.out (w.heap.size + 1) w1 HB1.out HF1.out).mono ?_
  rintro e2 w2 ⟨i, there, rfl, hb2, hin, h1, h2, h3, h4⟩
  have HB2 := hide_ (HB1.out.trans (hb2.mono HB1.out.size))
  have HX2 := hide_ (HX1.out.below hb2)
  have H1 := hide_ h1
  have H2 := hide_ h2
  have H3 := hide_ h3
  have H4 := hide_ h4
  clear hb2 h1 h2 h3 h4
  have hcx := HX2.out.cell
  have hz1 : w.heap.size < w2.heap.size := HX2.out.lt
  cases there with
  | false =>
    have HQ := hide_ (HNOT.out i H1.out H2.out (H4.out rfl))
    have HX3 := hide_ (show BoxAt (w2.alloc (.cells #[.int .u8 ms, .int .u64 mi, .int .u64 mx] 65)) w2.heap.size #[.int .u8 ms, .int .u64 mi, .int .u64 mx] 65 from BoxAt.new w2 _ _)
    have HB3 := hide_ (HB2.out.alloc HB2.out.size (.cells #[.int .u8 ms, .int .u64 mi, .int .u64 mx] 65))
    go_wp2_with fail
    refine (HIN.out i w2.heap.size _ hin HB3.out HB2.out.size HX3.out).mono ?_
    rintro e3 w3 ⟨A3, c3, rfl, ho3, hb3⟩
    have HO3 := hide_ ho3
    have HB4 := hide_ (grown_late HB3.out hb3)
    clear ho3 hb3 hcx
    go_wp2
    go_ret
    have hq := HQ.out
    have hrl : R.length = n + 1 := by rw [← hq]; simp only [List.length_append, List.length_cons, List.length_take, List.length_drop, HL.out]; omega
    refine ⟨A3, c3, by rw [hrl]; rfl, ?_, HB4.out⟩
    rw [hrl, ← hq]
    exact HO3.out
  | true =>
    obtain ⟨y, hy, hyk⟩ := H3.out rfl
    have hlt : i < n := by have := (List.getElem?_eq_some_iff.1 hy).1; have := HL.out; omega
    have HO2' := own_below HO.out HB2.out
    obtain ⟨g, rfl, hg1, hg2, -⟩ := own_some HO2' (by omega)
    have HO2 := hide_ HO2'
    have HY := hide_ hy
    have HQ := hide_ (HIS.out i y hy hyk)
    clear hy hyk HO2' HIN HBS HN1
    obtain ⟨U, hU⟩ : ∃ U, w2.setCells g (i * 3) [.int .u8 ms, .int .u64 mi, .int .u64 mx] = U := ⟨_, rfl⟩
    have hU2 := own_setCells [.int .u8 ms, .int .u64 mi, .int .u64 mx] (i * 3) w2 _ HO2.out (by rw [flat_len (q := 3) (fun _ => rfl), HL.out]; simp; omega)
    rw [hU] at hU2
    have HU := hide_ (show (((w2.setCell ⟨g, i * 3, none⟩ (.int .u8 ms)).setCell ⟨g, i * 3 + 1, none⟩ (.int .u64 mi)).setCell ⟨g, i * 3 + 2, none⟩ (.int .u64 mx)) = U from hU)
    have HOW := hide_ hU2.1
    have HGR := hide_ hU2.2.1
    clear hU hU2
    obtain ⟨yms, ymi, ymx⟩ := y
    have e0 : w2.cell? ⟨g, i * 3, none⟩ = some (.int .u8 yms) := by
      rw [HO2.out.cellAt (i * 3) (by omega)]
      exact (flat_get (cs := mrkC) (q := 3) (fun _ => rfl) l i 0 _ HY.out (by omega)).trans rfl
    have f0 : w2.frozen? ⟨g, i * 3, none⟩ = false := HO2.out.frozenAt _
    have e1 : w2.cell? ⟨g, i * 3 + 1, none⟩ = some (.int .u64 ymi) := by
      rw [HO2.out.cellAt (i * 3 + 1) (by omega)]
      exact (flat_get (cs := mrkC) (q := 3) (fun _ => rfl) l i 1 _ HY.out (by omega)).trans rfl
    have f1 : w2.frozen? ⟨g, i * 3 + 1, none⟩ = false := HO2.out.frozenAt _
    have e2 : w2.cell? ⟨g, i * 3 + 2, none⟩ = some (.int .u64 ymx) := by
      rw [HO2.out.cellAt (i * 3 + 2) (by omega)]
      exact (flat_get (cs := mrkC) (q := 3) (fun _ => rfl) l i 2 _ HY.out (by omega)).trans rfl
    have f2 : w2.frozen? ⟨g, i * 3 + 2, none⟩ = false := HO2.out.frozenAt _
    go_wp2
    rw [HU.out]
    go_ret
    have hq := HQ.out
    have hrl : R.length = n := by rw [← hq, List.length_set]; exact HL.out
    refine ⟨some ⟨g, 0, none⟩, c, by rw [hrl]; rfl, ?_, grown_late HB2.out HGR.out⟩
    rw [hrl, ← hq, ← flat_over (cs := mrkC) (q := 3) (fun _ => rfl) (by rw [HL.out]; exact hlt)]
    exact HOW.out

end Go.Proofs.YtpiikdinphnjbaaGreat
