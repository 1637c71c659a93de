/-
  Texts of this claim put together: Rep7, EngG, PutL.
-/
import Derived.Test.YtccfjaefnejjmaaGreatJ35
import Derived.Deep.RegionHeld
import Derived.Test.YtccfjaefnejjmaaGreatJ36
import Derived.Test.YtccfjaefnejjmaaGreatJ29
import Derived.Test.YtccfjaefnejjmaaGreatJ08
import Derived.Test.YtccfjaefnejjmaaGreatJ30
/-
  Contracts of engine's replyOf.
-/
namespace Go.Proofs.YtccfjaefnejjmaaGreat
open Go.RowKit

/-- the reply to an operation that came to this register and this error -/
def replyG (r : RegP) (e : Int) : RepP := if e = 0 then (if r.ki = 1 then (0, r.inc, r.st, r.va) else (0, 0, 0, [])) else (e, 0, 0, [])
/-- what replyOf leaves -/
def Replies (p : RepP) (w : World) (e : Ending) (w' : World) : Prop := ∃ y : RepM, e = .returned y.v ∧ y.p = p ∧ (I64 y.er ∧ U64 y.inc ∧ I64 y.st) ∧ OwnVars w' w.heap.size y.va ∧ Below w.heap.size w w'

set_option maxRecDepth 100000 in
set_option maxHeartbeats 6400000 in
theorem replyOf_any (x : RegM) (e : Int) (B : Nat) (w : World) (hx : RegM.ok w B x) (he : I64 e) (hB : B ≤ w.heap.size) (h1 : x.va.l.length ≤ 50) :
    Calls Tryz.prog 32 #[x.v, .int .i64 e] w (Replies (replyG x.p e) w) := by
  have HV := hide_ (fun (u : World) (hb : Below w.heap.size w u) => (ints_stable.below hx.2.1 (hb.mono hB)).sees)
  have HVI := hide_ hx.2.1.2.2.2
  have HNUM := hide_ hx.1
  have HE := hide_ he
  clear hx he
  obtain ⟨ki, inc, st, ⟨vA, vc, vl⟩, ⟨dA, dc, dl⟩, ⟨oA, oc, ol⟩, la, ⟨mA, mc, ml⟩⟩ := x
  obtain ⟨nv, hnv⟩ : ∃ n, vl.length = n := ⟨_, rfl⟩
  simp only [RegM.v, Sl.v, hnv] at HV HVI HNUM h1 ⊢
  have HNV := hide_ hnv
  obtain ⟨R, hR⟩ : ∃ R, replyG (RegM.p ⟨ki, inc, st, ⟨vA, vc, vl⟩, ⟨dA, dc, dl⟩, ⟨oA, oc, ol⟩, la, ⟨mA, mc, ml⟩⟩) e = R := ⟨_, rfl⟩
  have HR := hide_ (show R = if e = 0 then (if ki = 1 then (0, inc, st, vl) else (0, 0, 0, [])) else (e, 0, 0, []) by rw [← hR]; rfl)
  rw [hR]
  clear hR hnv
  obtain ⟨W0, hW0⟩ : ∃ W0, (w.alloc (.cells #[.int .u8 ki, .int .u64 inc, .int .i64 st, .slice vA nv vc, .slice dA dl.length dc, .slice oA ol.length oc, .int .u64 la, .slice mA ml.length mc] 31)).alloc (.cells #[.int .i64 0, .int .u64 0, .int .i64 0, .slice none 0 0] 38) = W0 := ⟨_, rfl⟩
  have HX := hide_ (show BoxAt W0 w.heap.size #[.int .u8 ki, .int .u64 inc, .int .i64 st, .slice vA nv vc, .slice dA dl.length dc, .slice oA ol.length oc, .int .u64 la, .slice mA ml.length mc] 31 from hW0 ▸ (BoxAt.new w #[.int .u8 ki, .int .u64 inc, .int .i64 st, .slice vA nv vc, .slice dA dl.length dc, .slice oA ol.length oc, .int .u64 la, .slice mA ml.length mc] 31).alloc _)
  have HZ := hide_ (show BoxAt W0 (w.heap.size + 1) #[.int .i64 0, .int .u64 0, .int .i64 0, .slice none 0 0] 38 from by
    have h := BoxAt.new (w.alloc (.cells #[.int .u8 ki, .int .u64 inc, .int .i64 st, .slice vA nv vc, .slice dA dl.length dc, .slice oA ol.length oc, .int .u64 la, .slice mA ml.length mc] 31)) #[.int .i64 0, .int .u64 0, .int .i64 0, .slice none 0 0] 38
    rw [hW0] at h
    simpa using h)
  have HB0 := hide_ (show Below w.heap.size w W0 from hW0 ▸ ((Below.refl _ _).alloc (Nat.le_refl _) _).alloc (by simp) _)
  have HW0 := hide_ hW0
  clear hW0
  by_cases q1 : e = 0
  case neg =>
    have HP := hide_ (show R = (e, 0, 0, []) by rw [HR.out, if_neg q1])
    have b1 : (e != 0) = true := bne_iff_ne.2 q1
    clear q1
    go_enter Tryz.func32, Tryz.ntmps32
    go_wp2
    refine bodyPost_ret (v := .agg #[.int .i64 e, .int .u64 0, .int .i64 0, .slice none 0 0]) (by simp [results, Tryz.results32, go_sem]) rfl ?_
    rw [HP.out]
    refine ⟨⟨e, 0, 0, ⟨none, 0, []⟩⟩, rfl, rfl, ⟨HE.out, by unfold U64; simp, by unfold I64; simp⟩, ⟨World.ownsRow_nil _ _ _ _, by simp⟩, ?_⟩
    first | exact HB0.out | (iterate 4 refine Below.setCell ?_ (by simp) _) <;> exact ((Below.refl _ _).alloc (Nat.le_refl _) _).alloc (by simp) _ | exact ((Below.refl _ _).alloc (Nat.le_refl _) _).alloc (by simp) _
  subst q1
  by_cases q2 : ki = 1
  case neg =>
    have HP := hide_ (show R = (0, 0, 0, []) by rw [HR.out, if_pos rfl, if_neg q2])
    have b2 : (ki != 1) = true := bne_iff_ne.2 q2
    clear q2
    go_enter Tryz.func32, Tryz.ntmps32
    go_wp2
    refine bodyPost_ret (v := .agg #[.int .i64 0, .int .u64 0, .int .i64 0, .slice none 0 0]) (by simp [results, Tryz.results32, go_sem]) rfl ?_
    rw [HP.out]
    refine ⟨⟨0, 0, 0, ⟨none, 0, []⟩⟩, rfl, rfl, ⟨by unfold I64; simp, by unfold U64; simp, by unfold I64; simp⟩, ⟨World.ownsRow_nil _ _ _ _, by simp⟩, ?_⟩
    first | exact HB0.out | (iterate 4 refine Below.setCell ?_ (by simp) _) <;> exact ((Below.refl _ _).alloc (Nat.le_refl _) _).alloc (by simp) _ | exact ((Below.refl _ _).alloc (Nat.le_refl _) _).alloc (by simp) _
  subst q2
  have HP := hide_ (show R = (0, inc, st, vl) by rw [HR.out, if_pos rfl, if_pos rfl])
  go_enter Tryz.func32, Tryz.ntmps32
  go_upto_region 3 with fail
  rw [HW0.out]
  have HN := hide_ (show Below W0.heap.size W0 W0.drew from (Below.refl _ _).drew)
  have HSS := hide_ (fun (w' : World) (h : Below W0.heap.size W0 w') => show (∀ i : Nat, w'.cell? ⟨w.heap.size, i, none⟩ = (#[.int .u8 1, .int .u64 inc, .int .i64 st, .slice vA nv vc, .slice dA dl.length dc, .slice oA ol.length oc, .int .u64 la, .slice mA ml.length mc] : Array Value)[i]?) from (HX.out.below h).cell)
  refine wp_region_held_drew (S := fun w' => (∀ i : Nat, w'.cell? ⟨w.heap.size, i, none⟩ = (#[.int .u8 1, .int .u64 inc, .int .i64 st, .slice vA nv vc, .slice dA dl.length dc, .slice oA ol.length oc, .int .u64 la, .slice mA ml.length mc] : Array Value)[i]?)) (by kernel_rfl) (HSS.out _ HN.out) (fun hHeld => ?_)
  refine wpAnyH_take (i := 0) (oi := ⟨some 14, _, _, _, _, _⟩) (v := ?v1) rfl (by kernel_rfl) (by kernel_rfl) (by kernel_rfl) (fun _ _ _ h => h) (Or.inl ⟨by rfl, ?hy1⟩) (by assumption) ?rest1
  case hy1 => intro w hSw; (try dsimp only at hSw); go_simp <;> with_reducible rfl
  simp only [Act.put, List.setIfInBounds_toArray, List.set_cons_zero, List.set_cons_succ]
  refine wpAnyH_take (i := 1) (oi := ⟨some 15, _, _, _, _, _⟩) (v := ?v2) rfl (by kernel_rfl) (by kernel_rfl) (by kernel_rfl) (fun _ _ _ h => h) (Or.inl ⟨by rfl, ?hy2⟩) (by assumption) ?rest2
  case hy2 => intro w hSw; (try dsimp only at hSw); go_simp <;> with_reducible rfl
  simp only [Act.put, List.setIfInBounds_toArray, List.set_cons_zero, List.set_cons_succ]
  refine wpAnyH_take (i := 2) (oi := ⟨some 16, _, _, _, _, _⟩) (v := ?v3) rfl (by kernel_rfl) (by kernel_rfl) (by kernel_rfl) (fun _ _ _ h => h) (Or.inl ⟨by rfl, ?hy3⟩) (by assumption) ?rest3
  case hy3 => intro w hSw; (try dsimp only at hSw); go_simp <;> with_reducible rfl
  simp only [Act.put, List.setIfInBounds_toArray, List.set_cons_zero, List.set_cons_succ]
  refine wpAnyH_take (i := 3) (oi := ⟨some 17, _, _, _, _, _⟩) (v := ?v4) rfl (by kernel_rfl) (by kernel_rfl) (by kernel_rfl) (fun _ _ _ h => h) (Or.inl ⟨by rfl, ?hy4⟩) (by assumption) ?rest4
  case hy4 => intro w hSw; (try dsimp only at hSw); go_simp <;> with_reducible rfl
  simp only [Act.put, List.setIfInBounds_toArray, List.set_cons_zero, List.set_cons_succ]
  refine wpAnyH_take (i := 4) (oi := ⟨some 18, _, _, _, _, _⟩) (v := ?v5) rfl (by kernel_rfl) (by kernel_rfl) (by kernel_rfl) (fun _ _ _ h => h) (Or.inl ⟨by rfl, ?hy5⟩) (by assumption) ?rest5
  case hy5 => intro w hSw; (try dsimp only at hSw); go_simp <;> with_reducible rfl
  simp only [Act.put, List.setIfInBounds_toArray, List.set_cons_zero, List.set_cons_succ]
  refine wpAnyH_take (i := 5) (oi := ⟨some 19, _, _, _, _, _⟩) (v := ?v6) rfl (by kernel_rfl) (by kernel_rfl) (by kernel_rfl) (fun _ _ _ h => h) (Or.inl ⟨by rfl, ?hy6⟩) (by assumption) ?rest6
  case hy6 => intro w hSw; (try dsimp only at hSw); go_simp <;> with_reducible rfl
  simp only [Act.put, List.setIfInBounds_toArray, List.set_cons_zero, List.set_cons_succ]
  refine wpAnyH_ready (rs := [6]) (by kernel_rfl) (by simp) ?_
  refine AllReadyH.cons rfl (fun K hK => ?_) AllReadyH.nil
  go_simp
  go_wp2_with fail
  refine (clone_any vl vA nv vc B _ HNV.out (by omega) (HV.out _ (HB0.out.trans (HN.out.mono HB0.out.size))) (Nat.le_trans hB (HB0.out.trans (HN.out.mono HB0.out.size)).size)).mono ?_
  rintro en w5 ⟨A5, c5, rfl, ho5, hb5⟩
  have HB5 := hide_ (HN.out.trans (hb5.mono HN.out.size))
  have HO5 := hide_ ho5
  have HZ5 := hide_ (HZ.out.below HB5.out)
  have r0 := (HZ5.out.cell 0).trans (show _ = some (.int .i64 0 : Value) from rfl)
  have g0 := HZ5.out.frozen 0
  have r1 := (HZ5.out.cell 1).trans (show _ = some (.int .u64 0 : Value) from rfl)
  have g1 := HZ5.out.frozen 1
  have r2 := (HZ5.out.cell 2).trans (show _ = some (.int .i64 0 : Value) from rfl)
  have g2 := HZ5.out.frozen 2
  have r3 := (HZ5.out.cell 3).trans (show _ = some (.slice none 0 0 : Value) from rfl)
  have g3 := HZ5.out.frozen 3
  clear ho5 hb5
  refine hK.out _ _ (HSS.out _ HB5.out) (fun hHeld => ?_)
  clear hK K
  refine wpAnyH_take (i := 7) (oi := ⟨some 21, _, _, _, _, _⟩) (v := ?v7) rfl (by kernel_rfl) (by kernel_rfl) (by kernel_rfl) (fun _ _ _ h => h) (Or.inl ⟨by rfl, ?hy7⟩) (by assumption) ?rest7
  case hy7 => intro w hSw; (try dsimp only at hSw); go_simp <;> with_reducible rfl
  simp only [Act.put, List.setIfInBounds_toArray, List.set_cons_zero, List.set_cons_succ]
  refine wpAnyH_ready (rs := [8]) (by kernel_rfl) (by simp) ?_
  refine AllReadyH.cons rfl (fun K hK => ?_) AllReadyH.nil
  go_simp
  have HFIN := hide_ (show Below w.heap.size w ((((w5.setCell ⟨w.heap.size + 1, 0, none⟩ (.int .i64 0)).setCell ⟨w.heap.size + 1, 1, none⟩ (.int .u64 inc)).setCell ⟨w.heap.size + 1, 2, none⟩ (.int .i64 st)).setCell ⟨w.heap.size + 1, 3, none⟩ (.slice A5 nv c5)) from ((((((HB0.out.trans (HB5.out.mono HB0.out.size)).setCell (p := ⟨w.heap.size + 1, 0, none⟩) (Nat.le_succ _) _)).setCell (p := ⟨w.heap.size + 1, 1, none⟩) (Nat.le_succ _) _)).setCell (p := ⟨w.heap.size + 1, 2, none⟩) (Nat.le_succ _) _).setCell (p := ⟨w.heap.size + 1, 3, none⟩) (Nat.le_succ _) _)
  refine hK.out _ _ (fun i => by simpa [go_sem] using (HX.out.below HB5.out).cell i) (fun hHeld => ?_)
  clear hK K
  refine wpAnyH_done (by kernel_rfl) ?_ _
  go_wp2_with fail
  refine bodyPost_ret (v := .agg #[.int .i64 0, .int .u64 inc, .int .i64 st, .slice A5 nv c5]) (by simp [results, Tryz.results32, go_sem, r0, r1, r2, r3]) rfl ?_
  rw [HP.out]
  refine ⟨⟨0, inc, st, ⟨A5, c5, vl⟩⟩, by simp only [RepM.v, Sl.v, HNV.out], rfl, ⟨by unfold I64; simp, HNUM.out.2.1, HNUM.out.2.2.1⟩, ?_, ?_⟩
  · have h := own_mono (base' := w.heap.size + 2) HO5.out (by have := HN.out.size; rw [← HW0.out] at this ⊢; simp)
    have h4 : OwnVars w5 (w.heap.size + 2) ⟨A5, c5, vl⟩ := ⟨by simp only [HNV.out]; exact h, HVI.out⟩
    exact OwnVars.less ((((h4.far (by omega)).far (by omega)).far (by omega)).far (by omega)) (by omega)
  · exact HFIN.out
end Go.Proofs.YtccfjaefnejjmaaGreat

/-
  What an operation does to a register, as plain functions.
-/
namespace Go.Proofs.YtccfjaefnejjmaaGreat
open Go.RowKit

/-- a part put into a list whose keys rise: over the one of its key, if there is one -/
def putL {α : Type} (key : α → Int) (l : List α) (d : α) : List α := l.filter (fun x => decide (key x < key d)) ++ d :: l.filter (fun x => decide (key d < key x))
def againX (o : OpM) (d : DoneP) : Bool := decide (d.1 = o.cl) && decide (o.sq ≤ d.2.1)
def againK (o : OpM) (l : List DoneP) (k : Nat) : Bool := match l[k]? with | some d => againX o d | none => false
/-- the reply to an operation that was done already -/
def againG (l : List DoneP) (o : OpM) : Option RepP := match idxO (againK o l) l.length with
  | none => none
  | some k => match l[k]? with
    | none => none
    | some d => some (if o.sq < d.2.1 then (15, 0, 0, []) else d.2.2)
/-- cells with their numbers -/
def numG (la : Int) : List (Int × Int × Int) → List CelM
  | [] => []
  | c :: l => (la + 1, c.1, c.2.1, c.2.2) :: numG (la + 1) l
def roomB (r : RegP) (n : Nat) : Bool := decide (r.ou.length + n ≤ 8) && decide (r.la ≤ 9223372036854775808 - (n : Int))
def fireG (ts tv : Int) (tl : List RuM) (r : RegP) (ac pa ar : Int) : RegP × Int :=
  if r.ki = 1 then
    (match fireR ts tv tl r.st ac pa r.va ar with
    | (st, va, cells, e) => if e = 0 then (if roomB r cells.length = true then (⟨r.ki, r.inc, st, va, r.dn, r.ou ++ numG r.la cells, r.la + cells.length, r.ma⟩, 0) else (r, 20)) else (r, e))
  else (r, 11)
def readG (r : RegP) : RegP × Int := if r.ki = 1 then (r, 0) else (r, 11)
def removeG (r : RegP) : RegP × Int := if r.ki = 1 then (if r.ou.length = 0 then (⟨2, r.inc, 0, [], r.dn, [], 0, r.ma⟩, 0) else (r, 16)) else (r, 11)
def consumeG (ts tv : Int) (tl : List RuM) (r : RegP) (o : OpM) : RegP × Int :=
  if setdB o.so o.inc o.ce r.ma = true then (r, 14) else if r.ki = 1 then
    (match fireG ts tv tl r o.ac 0 o.ar with | (x, e) => (⟨x.ki, x.inc, x.st, x.va, x.dn, x.ou, x.la, putL (·.1) x.ma (o.so, o.inc, o.ce)⟩, e))
  else (r, 11)
def clearG (r : RegP) (inc ce : Int) : RegP × Int := (if r.inc = inc then ⟨r.ki, r.inc, r.st, r.va, r.dn, r.ou.filter (fun c => !(decide (c.1 = ce))), r.la, r.ma⟩ else r, 0)
def doG (ts tv : Int) (tl : List RuM) (r : RegP) (o : OpM) (cn : Int) : RegP × Int :=
  if o.ki = 1 then createG r tv.toNat cn else if o.ki = 2 then fireG ts tv tl r o.ac o.pa o.ar else if o.ki = 3 then readG r else if o.ki = 4 then removeG r
  else if o.ki = 5 then consumeG ts tv tl r o else if o.ki = 6 then clearG r o.inc o.ce else (r, 0)
def noteG (r : RegP) (o : OpM) (p : RepP) : RegP := if o.cl = 0 then r else if r.ki = 0 then r else ⟨r.ki, r.inc, r.st, r.va, putL (·.1) r.dn (o.cl, o.sq, p), r.ou, r.la, r.ma⟩
def pickG (a : Option RepP) (r : RegP) (s : RegP × RepP) : RegP × RepP := match a with
  | some p => (r, p)
  | none => s
def applyG (ts tv : Int) (tl : List RuM) (r : RegP) (o : OpM) (cn : Int) : RegP × RepP :=
  pickG (againG r.dn o) r (noteG (doG ts tv tl r o cn).1 o (replyG (doG ts tv tl r o cn).1 (doG ts tv tl r o cn).2), replyG (doG ts tv tl r o cn).1 (doG ts tv tl r o cn).2)

/-- what again leaves -/
def Agains (a : Option RepP) (w : World) (e : Ending) (w' : World) : Prop := ∃ y : RepM, e = .returned (.tuple #[y.v, .bool a.isSome]) ∧ y.p = a.getD (0, 0, 0, []) ∧ (I64 y.er ∧ U64 y.inc ∧ I64 y.st) ∧ OwnVars w' w.heap.size y.va ∧ Below w.heap.size w w'
/-- what note leaves -/
def Notes (r : RegP) (lo z : Nat) (w : World) (e : Ending) (w' : World) : Prop := ∃ x, e = .returned (.tuple #[]) ∧ x.p = r ∧ At7 w' lo z x ∧ Kp z lo w w'
/-- what Apply leaves -/
def Applies (p : RegP × RepP) (er : Int) (w : World) (e : Ending) (w' : World) : Prop := ∃ (x : RegM) (y : RepM), e = .returned (.tuple #[x.v, y.v, .int .i64 er]) ∧ x.p = p.1 ∧ y.p = p.2 ∧ Fresh w' w.heap.size x ∧ (I64 y.er ∧ U64 y.inc ∧ I64 y.st) ∧ OwnVars w' w.heap.size y.va ∧ Below w.heap.size w w'

theorem At7.below {w w' : World} {lo z : Nat} {x : RegM} (h : At7 w lo z x) (hb : Below w.heap.size w w') : At7 w' lo z x := ⟨h.box.below hb, h.fresh.below hb, h.low, Nat.le_trans h.size hb.size⟩
theorem Kp.keep {z lo k : Nat} {w w' : World} {cs : Array Value} {t : TypeId} (h : Kp z lo w w') (hb : BoxAt w k cs t) (h1 : k ≠ z) (h2 : k < lo) : BoxAt w' k cs t := by
  rcases Nat.lt_or_ge k z with hk | hk
  · exact (h.1.block k hk).trans hb
  · exact (h.2 k (by omega) h2).trans hb
theorem Fresh.less {w : World} {lo lo' : Nat} {x : RegM} (h : Fresh w lo x) (hb : lo' ≤ lo) : Fresh w lo' x :=
  ⟨h.num, h.va.less hb, own_mono h.dn hb, fun d hd => ⟨(h.di d hd).1, (h.di d hd).2.less hb⟩, own_mono h.ou hb, h.oi, own_mono h.ma hb, h.mi⟩

/-- Apply's boxes: the contract, the operation, both results -/
structure Bxs (w : World) (h : Nat) (TB OB : Array Value) : Prop where
  t : BoxAt w h TB 24
  o : BoxAt w (h + 1 + 1) OB 33
  g : BoxAt w (h + 1 + 1 + 1) #[.int .u8 0, .int .u64 0, .int .i64 0, .slice none 0 0, .slice none 0 0, .slice none 0 0, .int .u64 0, .slice none 0 0] 31
  p : BoxAt w (h + 1 + 1 + 1 + 1) #[.int .i64 0, .int .u64 0, .int .i64 0, .slice none 0 0] 38
section
variable {w w' : World} {h : Nat} {TB OB : Array Value}
theorem Bxs.below (b : Bxs w h TB OB) (hb : Below w.heap.size w w') : Bxs w' h TB OB := ⟨b.t.below hb, b.o.below hb, b.g.below hb, b.p.below hb⟩
theorem Bxs.alloc (b : Bxs w h TB OB) (o : Obj) : Bxs (w.alloc o) h TB OB := ⟨b.t.alloc o, b.o.alloc o, b.g.alloc o, b.p.alloc o⟩
theorem Bxs.set (b : Bxs w h TB OB) {k i : Nat} {u : Value} (h0 : h ≠ k) (h2 : h + 1 + 1 ≠ k) (h3 : h + 1 + 1 + 1 ≠ k) (h4 : h + 1 + 1 + 1 + 1 ≠ k) : Bxs (w.setCell ⟨k, i, none⟩ u) h TB OB := ⟨b.t.apart h0, b.o.apart h2, b.g.apart h3, b.p.apart h4⟩
theorem Bxs.keep (b : Bxs w h TB OB) {lo : Nat} (hk : Kp (h + 1) lo w w') (hl : h + 5 ≤ lo) : Bxs w' h TB OB := ⟨hk.keep b.t (by omega) (by omega), hk.keep b.o (by omega) (by omega), hk.keep b.g (by omega) (by omega), hk.keep b.p (by omega) (by omega)⟩
end
end Go.Proofs.YtccfjaefnejjmaaGreat

/-
  A part put into a list whose numbers rise: plain mathematics.
-/
namespace Go.Proofs.YtccfjaefnejjmaaGreat

/-- numbers that rise -/
def Ris {α : Type} (key : α → Int) (l : List α) : Prop := l.Pairwise fun x y => key x < key y
theorem ris_of {l : List Int} {lo hi : Int} (h : risB l lo hi = true) : l.Pairwise (fun x y => x < y) := by
  have step : ∀ j (hj : j + 1 < l.length), l[j] < l[j + 1] := fun j hj => by
    have h1 := risB_true.1 h (j + 1) hj
    rw [risX_at (List.getElem?_eq_getElem hj)] at h1
    simp only [Bool.or_eq_false_iff, Bool.and_eq_false_iff, decide_eq_false_iff_not, Nat.add_sub_cancel, List.getD_eq_getElem?_getD, List.getElem?_eq_getElem (show j < l.length by omega), Option.getD_some] at h1
    rcases h1.2 with h2 | h2 <;> omega
  rw [List.pairwise_iff_getElem]
  intro i j hi hj hij
  obtain ⟨m, rfl⟩ : ∃ m, j = i + 1 + m := ⟨j - (i + 1), by omega⟩
  clear hij
  induction m with
  | zero => exact step i hj
  | succ m ih =>
    have h1 := ih (by omega)
    have h2 := step (i + 1 + m) hj
    exact Int.lt_trans h1 h2
theorem ris_in {l : List Int} {lo hi : Int} (h : risB l lo hi = true) : ∀ x ∈ l, lo ≤ x ∧ x ≤ hi := by
  intro x hx
  obtain ⟨k, hk, rfl⟩ := List.getElem_of_mem hx
  have := ris_far h k _ (List.getElem?_eq_getElem hk)
  omega
theorem ris_mk {l : List Int} {lo hi : Int} (h : l.Pairwise (fun x y => x < y)) (hb : ∀ x ∈ l, lo ≤ x ∧ x ≤ hi) : risB l lo hi = true := by
  rw [risB_true]
  intro j hj
  rw [risX_at (List.getElem?_eq_getElem hj)]
  simp only [Bool.or_eq_false_iff, Bool.not_eq_false', Bool.and_eq_false_iff, decide_eq_false_iff_not]
  refine ⟨inB_true.2 (hb _ (List.getElem_mem hj)), ?_⟩
  rcases Nat.eq_zero_or_pos j with h0 | h0
  · exact .inl (by omega)
  · right
    rw [List.pairwise_iff_getElem] at h
    have := h (j - 1) j (by omega) hj (by omega)
    rw [List.getD_eq_getElem?_getD, List.getElem?_eq_getElem (show j - 1 < l.length by omega), Option.getD_some]
    omega
theorem Ris.of {α : Type} {key : α → Int} {l : List α} {lo hi : Int} (h : risB (l.map key) lo hi = true) : Ris key l := by
  have := ris_of h
  rwa [List.pairwise_map] at this
section
variable {α β : Type} {key : α → Int} {l : List α} {d y : α} {i : Nat}
theorem filter_full {p : α → Bool} {l : List α} (h : ∀ x ∈ l, p x = true) : l.filter p = l := List.filter_eq_self.2 h
theorem filter_none {p : α → Bool} {l : List α} (h : ∀ x ∈ l, p x = false) : l.filter p = [] := List.filter_eq_nil_iff.2 fun x hx => by simp [h x hx]
theorem mem_take_at {x : α} (h : x ∈ l.take i) : ∃ t, t < i ∧ l[t]? = some x := by
  obtain ⟨t, ht, rfl⟩ := List.getElem_of_mem h
  rw [List.length_take] at ht
  exact ⟨t, by omega, by rw [List.getElem_take, List.getElem?_eq_getElem (by omega)]⟩
theorem mem_drop_at {x : α} (h : x ∈ l.drop i) : ∃ t, i ≤ t ∧ l[t]? = some x := by
  obtain ⟨t, ht, rfl⟩ := List.getElem_of_mem h
  rw [List.length_drop] at ht
  exact ⟨i + t, by omega, by rw [List.getElem_drop, List.getElem?_eq_getElem (by omega)]⟩
theorem putL_not (h1 : ∀ t x, t < i → l[t]? = some x → key x < key d) (h2 : ∀ t x, i ≤ t → l[t]? = some x → key d < key x) : putL key l d = l.take i ++ d :: l.drop i := by
  unfold putL
  have e1 : l.filter (fun x => decide (key x < key d)) = l.take i := by
    conv => lhs; rw [← List.take_append_drop i l]
    rw [List.filter_append, filter_full fun x hx => ?_, filter_none fun x hx => ?_, List.append_nil]
    · obtain ⟨t, ht, hx⟩ := mem_drop_at hx
      have := h2 t x ht hx
      simp only [decide_eq_false_iff_not]
      omega
    · obtain ⟨t, ht, hx⟩ := mem_take_at hx
      simpa using h1 t x ht hx
  have e2 : l.filter (fun x => decide (key d < key x)) = l.drop i := by
    conv => lhs; rw [← List.take_append_drop i l]
    rw [List.filter_append, filter_none fun x hx => ?_, filter_full fun x hx => ?_, List.nil_append]
    · obtain ⟨t, ht, hx⟩ := mem_drop_at hx
      simpa using h2 t x ht hx
    · obtain ⟨t, ht, hx⟩ := mem_take_at hx
      have := h1 t x ht hx
      simp only [decide_eq_false_iff_not]
      omega
  rw [e1, e2]
theorem putL_there (hr : Ris key l) (hy : l[i]? = some y) (hk : key y = key d) : putL key l d = l.set i d := by
  have hlt := (List.getElem?_eq_some_iff.1 hy).1
  have hp := List.pairwise_iff_getElem.1 hr
  have hyi : l[i] = y := (List.getElem?_eq_some_iff.1 hy).2
  have h1 : ∀ t x, t < i → l[t]? = some x → key x < key d := fun t x ht hx => by
    obtain ⟨h3, rfl⟩ := List.getElem?_eq_some_iff.1 hx
    have := hp t i h3 hlt ht
    rw [hyi, hk] at this
    exact this
  have h2 : ∀ t x, i + 1 ≤ t → l[t]? = some x → key d < key x := fun t x ht hx => by
    obtain ⟨h3, rfl⟩ := List.getElem?_eq_some_iff.1 hx
    have := hp i t hlt h3 (by omega)
    rw [hyi, hk] at this
    exact this
  have hs : l = l.take i ++ y :: l.drop (i + 1) := by
    rw [← hyi, List.getElem_cons_drop, List.take_append_drop]
  unfold putL
  have e1 : l.filter (fun x => decide (key x < key d)) = l.take i := by
    conv => lhs; rw [hs]
    rw [List.filter_append, filter_full fun x hx => ?_, filter_none fun x hx => ?_, List.append_nil]
    · rcases List.mem_cons.1 hx with rfl | hx
      · simp [hk]
      · obtain ⟨t, ht, hx⟩ := mem_drop_at hx
        have := h2 t x ht hx
        simp only [decide_eq_false_iff_not]
        omega
    · obtain ⟨t, ht, hx⟩ := mem_take_at hx
      simpa using h1 t x ht hx
  have e2 : l.filter (fun x => decide (key d < key x)) = l.drop (i + 1) := by
    conv => lhs; rw [hs]
    rw [List.filter_append, filter_none fun x hx => ?_, List.filter_cons_of_neg (by simp [hk]), filter_full fun x hx => ?_, List.nil_append]
    · obtain ⟨t, ht, hx⟩ := mem_drop_at hx
      simpa using h2 t x ht hx
    · obtain ⟨t, ht, hx⟩ := mem_take_at hx
      have := h1 t x ht hx
      simp only [decide_eq_false_iff_not]
      omega
  rw [e1, e2, List.set_eq_take_append_cons_drop, if_pos hlt]
theorem putL_map {f : α → β} {kb : β → Int} (h : ∀ x, kb (f x) = key x) : putL kb (l.map f) (f d) = (putL key l d).map f := by
  unfold putL
  rw [List.map_append, List.map_cons, List.filter_map, List.filter_map, h d]
  congr 3
  · congr 1
    funext x
    simp [h]
  · congr 1
    funext x
    simp [h]
theorem putL_mem {x : α} (h : x ∈ putL key l d) : x = d ∨ x ∈ l := by
  unfold putL at h
  rcases List.mem_append.1 h with h | h
  · exact .inr (List.mem_filter.1 h).1
  · rcases List.mem_cons.1 h with h | h
    · exact .inl h
    · exact .inr (List.mem_filter.1 h).1
theorem mem_putL (key : α → Int) (l : List α) (d : α) : d ∈ putL key l d := by
  unfold putL
  simp
theorem putL_keeps {x : α} (h : x ∈ l) (hk : key x ≠ key d) : x ∈ putL key l d := by
  unfold putL
  rcases Int.lt_or_gt_of_ne hk with h1 | h1
  · exact List.mem_append_left _ (List.mem_filter.2 ⟨h, by simpa using h1⟩)
  · exact List.mem_append_right _ (List.mem_cons_of_mem _ (List.mem_filter.2 ⟨h, by simpa using h1⟩))
theorem Ris.putL (h : Ris key l) (d : α) : Ris key (putL key l d) := by
  unfold Ris at h ⊢
  unfold Go.Proofs.YtccfjaefnejjmaaGreat.putL
  rw [List.pairwise_append, List.pairwise_cons]
  refine ⟨h.filter _, ⟨fun x hx => ?_, h.filter _⟩, fun x hx y hy => ?_⟩
  · simpa using (List.mem_filter.1 hx).2
  · have h1 : key x < key d := by simpa using (List.mem_filter.1 hx).2
    rcases List.mem_cons.1 hy with rfl | hy
    · exact h1
    · have h2 : key d < key y := by simpa using (List.mem_filter.1 hy).2
      omega
theorem putL_ris {lo hi : Int} (h : risB (l.map key) lo hi = true) (h1 : lo ≤ key d) (h2 : key d ≤ hi) : risB ((putL key l d).map key) lo hi = true := by
  refine ris_mk ?_ fun x hx => ?_
  · rw [List.pairwise_map]
    exact (Ris.of h).putL d
  · obtain ⟨y, hy, rfl⟩ := List.mem_map.1 hx
    rcases putL_mem hy with rfl | hy
    · exact ⟨h1, h2⟩
    · exact ris_in h _ (List.mem_map.2 ⟨y, hy, rfl⟩)
theorem putL_len : (putL key l d).length ≤ l.length + 1 := by
  unfold putL
  rw [List.length_append, List.length_cons]
  have : (l.filter (fun x => decide (key x < key d))).length + (l.filter (fun x => decide (key d < key x))).length ≤ l.length := by
    induction l with
    | nil => simp
    | cons a l ih =>
      by_cases h1 : key a < key d
      · rw [List.filter_cons_of_pos (by simpa using h1), List.filter_cons_of_neg (by simp; omega)]
        simp only [List.length_cons]
        omega
      · by_cases h2 : key d < key a
        · rw [List.filter_cons_of_neg (by simp; omega), List.filter_cons_of_pos (by simpa using h2)]
          simp only [List.length_cons]
          omega
        · rw [List.filter_cons_of_neg (by simp; omega), List.filter_cons_of_neg (by simp; omega)]
          simp only [List.length_cons]
          omega
  omega
/-- the document's way of putting, element by element -/
def ptB (key : α → Int) (l : List α) (d : α) : Bool := l.any fun x => decide (key d ≤ key x)
def ptL (key : α → Int) (l : List α) (d : α) : List α := if ptB key l d = true then putL key l d else l
theorem ptL_nil (key : α → Int) (d : α) : ptB key [] d = false ∧ ptL key [] d = [] := ⟨rfl, rfl⟩
theorem ptL_no (h : ptB key l d = false) : ptL key l d = l ∧ putL key l d = l ++ [d] := by
  have h1 : ∀ x ∈ l, key x < key d := fun x hx => by
    unfold ptB at h
    rw [List.any_eq_false] at h
    have := h x hx
    simp only [decide_eq_true_eq] at this
    omega
  refine ⟨by unfold ptL; rw [if_neg (by simp [h])], ?_⟩
  unfold putL
  rw [filter_full fun x hx => by simpa using h1 x hx, filter_none fun x hx => by have := h1 x hx; simp only [decide_eq_false_iff_not]; omega]
theorem ptL_yes (h : ptB key l d = true) : ptL key l d = putL key l d := by unfold ptL; rw [if_pos h]
theorem ptB_snoc (x : α) : ptB key (l ++ [x]) d = (ptB key l d || decide (key d ≤ key x)) := by
  unfold ptB
  rw [List.any_append]
  simp
/-- nothing was put yet, and it is put ahead of x -/
theorem ptL_now {x : α} (h : ptB key l d = false) (hx : key d ≤ key x) : ptB key (l ++ [x]) d = true ∧ ptL key (l ++ [x]) d = if key x = key d then l ++ [d] else l ++ [d] ++ [x] := by
  have h0 : ptB key (l ++ [x]) d = true := by rw [ptB_snoc, h]; simpa using hx
  refine ⟨h0, ?_⟩
  rw [ptL_yes h0]
  have h1 := (ptL_no h).2
  unfold putL at h1 ⊢
  rw [List.filter_append, List.filter_append]
  by_cases hk : key x = key d
  · rw [if_pos hk, List.filter_cons_of_neg (by simp; omega), List.filter_cons_of_neg (by simp; omega)]
    simpa using h1
  · rw [if_neg hk, List.filter_cons_of_neg (by simp; omega), List.filter_cons_of_pos (by simp; omega), ← h1]
    simp
/-- it was put, and x stands behind it -/
theorem ptL_then {x : α} (hr : Ris key (l ++ [x])) (h : ptB key l d = true) : ptB key (l ++ [x]) d = true ∧ key x ≠ key d ∧ ptL key (l ++ [x]) d = ptL key l d ++ [x] := by
  have h0 : ptB key (l ++ [x]) d = true := by rw [ptB_snoc, h]; rfl
  have hlt : key d < key x := by
    unfold ptB at h
    obtain ⟨y, hy, hk⟩ := List.any_eq_true.1 h
    have := (List.pairwise_append.1 hr).2.2 y hy x (by simp)
    simp only [decide_eq_true_eq] at hk
    omega
  refine ⟨h0, by omega, ?_⟩
  rw [ptL_yes h0, ptL_yes h]
  unfold putL
  rw [List.filter_append, List.filter_append, List.filter_cons_of_neg (by simp; omega), List.filter_cons_of_pos (by simpa using hlt)]
  simp
/-- nothing was put yet, and x stands ahead of it -/
theorem ptL_late {x : α} (h : ptB key l d = false) (hx : ¬ key d ≤ key x) : ptB key (l ++ [x]) d = false ∧ key x ≠ key d ∧ ptL key (l ++ [x]) d = ptL key l d ++ [x] := by
  have h0 : ptB key (l ++ [x]) d = false := by rw [ptB_snoc, h]; simpa using hx
  exact ⟨h0, by omega, by rw [(ptL_no h0).1, (ptL_no h).1]⟩
theorem ris_take (h : Ris key l) (k : Nat) : Ris key (l.take k) := List.Pairwise.sublist (List.take_sublist k l) h
end
end Go.Proofs.YtccfjaefnejjmaaGreat
