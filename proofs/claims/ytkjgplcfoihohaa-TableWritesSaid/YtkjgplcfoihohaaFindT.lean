/-
  Contracts of table's taken and Find.
-/
import Derived.Test.YtkjgplcfoihohaaMayT2
namespace Go.Proofs.Ytkjgplcfoihohaa
open Go.RowKit

theorem mayFire_any (st vs : Int) (t : Sl RuM) (B : Nat) (w : World) (vars : List Int) (V : Option Addr) (m k : Nat) (hm : vars.length = m) (hs : rusOk w B t) (hB : B ≤ w.heap.size) :
    Calls Try.prog 39 #[tabV st vs t, .slice V m k] w fun e w' => e = .returned (.bool (fireB st vs t.l vars)) ∧ Below w.heap.size w w' := by
  have hw1 : Below w.heap.size w (w.alloc (.cells #[.int .i64 st, .int .i64 vs, .slice t.A t.l.length t.c] 24)) := (Below.refl _ _).alloc (Nat.le_refl _) _
  have HC := hide_ (MayT_any st vs t B _ (rus_stable.below hs (hw1.mono hB)) (Nat.le_trans hB hw1.size))
  have HR := hide_ (show fireB st vs t.l vars = (decide ((m : Int) = vs) && mayT st vs t.l) by unfold fireB; rw [hm])
  have HW := hide_ hw1
  clear hs hB hw1 hm
  generalize mayT st vs t.l = q at HC HR
  generalize fireB st vs t.l vars = q2 at HR ⊢
  obtain ⟨tA, tc, tl⟩ := t
  simp only [tabV, Sl.v] at HC HW ⊢
  generalize tl.length = tn at HC HW ⊢
  by_cases h : (m : Int) = vs
  · have HR1 := hide_ (show q2 = q by rw [HR.out, decide_eq_true h]; rfl)
    subst h
    clear HR
    go_enter Try.func39, Try.ntmps39
    go_wp2_with fail
    refine HC.out.mono ?_
    rintro en w1 ⟨rfl, hb⟩
    have HB := hide_ hb
    clear hb
    go_wp2
    go_ret
    exact ⟨ret_boolT HR1.out.symm, HW.out.trans (HB.out.mono (by simp))⟩
  · have HR1 := hide_ (show q2 = false by rw [HR.out, decide_eq_false h]; rfl)
    have hd : ((m : Int) == vs) = false := beq_eq_false_iff_ne.2 h
    clear HR h
    go_enter Try.func39, Try.ntmps39
    go_wp2
    go_ret
    exact ⟨ret_boolT HR1.out.symm, HW.out⟩

/-- what taken keeps while it goes through rules -/
def TakI (sa ac pa : Int) (V : Option Addr) (m k : Nat) (arg : Int) (z : Nat) (w : World) : Prop :=
  w.cell? ⟨z, 0, none⟩ = some (.int .i64 sa) ∧ w.cell? ⟨z + 1, 0, none⟩ = some (.int .i64 ac) ∧ w.cell? ⟨z + 2, 0, none⟩ = some (.int .i64 pa) ∧ w.cell? ⟨z + 3, 0, none⟩ = some (.slice V m k) ∧ w.cell? ⟨z + 4, 0, none⟩ = some (.int .i64 arg) ∧ z + 4 < w.heap.size
theorem TakI.below {sa ac pa : Int} {V : Option Addr} {m k : Nat} {arg : Int} {z : Nat} {w w' : World} (h : TakI sa ac pa V m k arg z w) (hb : Below w.heap.size w w') : TakI sa ac pa V m k arg z w' := by
  obtain ⟨h1, h2, h3, h4, h5, b1⟩ := h
  have hz := hb.size
  exact ⟨(hb.cell (p := ⟨z, 0, none⟩) (by simp; omega)).trans h1, (hb.cell (p := ⟨z + 1, 0, none⟩) (by simp; omega)).trans h2, (hb.cell (p := ⟨z + 2, 0, none⟩) (by simp; omega)).trans h3, (hb.cell (p := ⟨z + 3, 0, none⟩) (by simp; omega)).trans h4, (hb.cell (p := ⟨z + 4, 0, none⟩) (by simp; omega)).trans h5, by omega⟩
theorem takX_at {sa ac pa : Int} {vars : List Int} {arg : Int} {l : List RuM} {k : Nat} {x : RuM} (h : l[k]? = some x) : takX sa ac pa vars arg l k = isFor sa ac pa vars arg x := by unfold takX; rw [h]

set_option maxRecDepth 100000 in
theorem oneTak_any (l : List RuM) (sa ac pa : Int) (vars : List Int) (V : Option Addr) (m k : Nat) (arg : Int) (z : Nat) (B j : Nat) (x : RuM) (w : World) (hx : l[j]? = some x) (hm : vars.length = m) (hs : RuM.ok w B x) (hsv : Sees w B V (iv vars)) (hvi : ∀ v ∈ vars, I64 v) (ha : I64 arg)
    (hB : B ≤ w.heap.size) (hI : TakI sa ac pa V m k arg z w) :
    Calls Try.prog 82 #[x.v, .pointer (some ⟨z, 0, none⟩), .pointer (some ⟨z + 1, 0, none⟩), .pointer (some ⟨z + 2, 0, none⟩), .pointer (some ⟨z + 3, 0, none⟩), .pointer (some ⟨z + 4, 0, none⟩)] w (Ans B w (takX sa ac pa vars arg l j) (TakI sa ac pa V m k arg z)) := by
  have HI := hide_ hI
  obtain ⟨i1, i2, i3, i4, i5, i6⟩ := hI
  have z0 : z < w.heap.size := by omega
  have z1 : z + 1 < w.heap.size := by omega
  have z2 : z + 2 < w.heap.size := by omega
  have z3 : z + 3 < w.heap.size := by omega
  obtain ⟨fr, xc, xp, tt, ⟨gA, gc, gl⟩, ⟨sA, sc, sl⟩, ⟨eA, ec, el⟩⟩ := x
  obtain ⟨q, hq⟩ : ∃ q, holdsB gl vars arg = q := ⟨_, rfl⟩
  have HR := hide_ (show takX sa ac pa vars arg l j = (decide (fr = sa) && (decide (xc = ac) && (decide (xp = pa) && q))) by rw [takX_at hx]; unfold isFor; rw [hq])
  obtain ⟨gn, hgn⟩ : ∃ n, gl.length = n := ⟨_, rfl⟩
  obtain ⟨sn, hsn⟩ : ∃ n, sl.length = n := ⟨_, rfl⟩
  obtain ⟨ee, hen⟩ : ∃ n, el.length = n := ⟨_, rfl⟩
  have hw1 := (Below.refl B w).alloc hB (.cells #[.int .i64 fr, .int .i64 xc, .int .i64 xp, .int .i64 tt, .slice gA gn gc, .slice sA sn sc, .slice eA ee ec] 40)
  have HW := hide_ hw1
  have HI1 := hide_ (HI.out.below ((Below.refl _ _).alloc (Nat.le_refl _) (.cells #[.int .i64 fr, .int .i64 xc, .int .i64 xp, .int .i64 tt, .slice gA gn gc, .slice sA sn sc, .slice eA ee ec] 40)))
  obtain ⟨-, hg, -, -⟩ := hs
  simp only at hg
  have hg1 := toks_stable.below hg hw1
  have HC := hide_ (Holds_any gl vars arg B gA V gn gc m k _ hgn (hgn ▸ toks_n63 hg) hm hg1.2.2.1 (hsv.below hw1) (by simp; omega) hg1.2.2.2 hvi ha)
  rw [hq] at HC
  simp only [RuM.v, Sl.v, hgn, hsn, hen] at HC ⊢
  generalize takX sa ac pa vars arg l j = R at HR ⊢
  clear hw1 hg hg1 hsv hgn hsn hen hq hm hvi ha hx
  by_cases e1 : fr = sa
  · subst e1
    by_cases e2 : xc = ac
    · subst e2
      by_cases e3 : xp = pa
      · subst e3
        have HR1 := hide_ (show R = q by rw [HR.out]; simp)
        clear HR
        go_enter Try.func82, Try.ntmps82
        go_wp2_with fail
        refine HC.out.mono ?_
        rintro en w1 ⟨rfl, hb⟩
        have HB := hide_ hb
        clear hb
        go_wp2
        go_ret
        exact ⟨ret_boolT HR1.out.symm, (fun _ => HI1.out.below HB.out), HW.out.trans (HB.out.mono (by simp; omega))⟩
      · have HR1 := hide_ (show R = false by rw [HR.out, decide_eq_false e3]; simp)
        have hd : (xp == pa) = false := beq_eq_false_iff_ne.2 e3
        clear HR e3 HC
        go_enter Try.func82, Try.ntmps82
        go_wp2
        go_ret
        exact ⟨ret_boolT HR1.out.symm, (fun _ => HI1.out), HW.out⟩
    · have HR1 := hide_ (show R = false by rw [HR.out, decide_eq_false e2]; simp)
      have hd : (xc == ac) = false := beq_eq_false_iff_ne.2 e2
      clear HR e2 HC
      go_enter Try.func82, Try.ntmps82
      go_wp2
      go_ret
      exact ⟨ret_boolT HR1.out.symm, (fun _ => HI1.out), HW.out⟩
  · have HR1 := hide_ (show R = false by rw [HR.out, decide_eq_false e1]; simp)
    have hd : (fr == sa) = false := beq_eq_false_iff_ne.2 e1
    clear HR e1 HC
    go_enter Try.func82, Try.ntmps82
    go_wp2
    go_ret
    exact ⟨ret_boolT HR1.out.symm, (fun _ => HI1.out), HW.out⟩

/-- the world behind five boxes -/
def box5 (w : World) (sa ac pa : Int) (V : Option Addr) (m k : Nat) (arg : Int) : World :=
  ((((w.alloc (.cells #[.int .i64 sa] 3)).alloc (.cells #[.int .i64 ac] 3)).alloc (.cells #[.int .i64 pa] 3)).alloc (.cells #[.slice V m k] 41)).alloc (.cells #[.int .i64 arg] 2)

theorem taken_any (t : Sl RuM) (sa ac pa : Int) (vars : List Int) (V : Option Addr) (m k : Nat) (arg : Int) (B : Nat) (w : World) (hm : vars.length = m) (hs : rusOk w B t) (hsv : Sees w B V (iv vars)) (hvi : ∀ v ∈ vars, I64 v) (ha : I64 arg) (hB : B ≤ w.heap.size) :
    Calls Try.prog 40 #[t.v, .int .i64 sa, .int .i64 ac, .int .i64 pa, .slice V m k, .int .i64 arg] w fun e w' => e = .returned (.int .i64 (takI sa ac pa vars arg t.l)) ∧ Below w.heap.size w w' := by
  have hw1 : Below w.heap.size w (box5 w sa ac pa V m k arg) := (((((Below.refl _ _).alloc (Nat.le_refl _) _).alloc (by simp) _).alloc (by simp; omega) _).alloc (by simp; omega) _).alloc (by simp; omega) _
  have hI0 : TakI sa ac pa V m k arg w.heap.size (box5 w sa ac pa V m k arg) := by
    unfold box5
    refine ⟨?_, ?_, ?_, ?_, ?_, by simp⟩
    · rw [World.cell?_alloc_past _ _ _ (by simp; omega), World.cell?_alloc_past _ _ _ (by simp; omega), World.cell?_alloc_past _ _ _ (by simp; omega), World.cell?_alloc_past _ _ _ (by simp), World.cell?_alloc_at _ _ _ _ rfl]; rfl
    · rw [World.cell?_alloc_past _ _ _ (by simp), World.cell?_alloc_past _ _ _ (by simp), World.cell?_alloc_past _ _ _ (by simp), World.cell?_alloc_at _ _ _ _ (by simp)]; rfl
    · rw [World.cell?_alloc_past _ _ _ (by simp), World.cell?_alloc_past _ _ _ (by simp), World.cell?_alloc_at _ _ _ _ (by simp)]; rfl
    · rw [World.cell?_alloc_past _ _ _ (by simp), World.cell?_alloc_at _ _ _ _ (by simp)]; rfl
    · rw [World.cell?_alloc_at _ _ _ _ (by simp)]; rfl
  have HC := hide_ (indexRule_any (takX sa ac pa vars arg t.l) (fun _ => TakI sa ac pa V m k arg w.heap.size) 82 #[.pointer (some ⟨w.heap.size, 0, none⟩), .pointer (some ⟨w.heap.size + 1, 0, none⟩), .pointer (some ⟨w.heap.size + 2, 0, none⟩), .pointer (some ⟨w.heap.size + 3, 0, none⟩), .pointer (some ⟨w.heap.size + 4, 0, none⟩)] t w.heap.size _
    (rus_stable.below (rus_stable.more hs hB) hw1) hw1.size hI0 ent_tak (fun j x wr hx hb hI => by
      rw [app5]
      exact oneTak_any t.l sa ac pa vars V m k arg _ w.heap.size j x wr hx hm (ru_stable.below (ru_stable.more (hs.2.2.2 x (List.mem_of_getElem? hx)) hB) (hw1.trans hb)) ((hsv.more hB).below (hw1.trans hb)) hvi ha (Nat.le_trans hw1.size hb.size) hI))
  have HR := hide_ (show idxI (takX sa ac pa vars arg t.l) t.l.length = takI sa ac pa vars arg t.l from rfl)
  have HW := hide_ hw1
  clear hs hB hw1 hI0 hm hsv hvi ha
  generalize idxI (takX sa ac pa vars arg t.l) t.l.length = q at HC HR
  generalize t.v = tv at HC ⊢
  unfold box5 at HC HW
  go_enter Try.func40, Try.ntmps40
  go_wp2_with fail
  refine HC.out.mono ?_
  rintro en w1 ⟨rfl, hb⟩
  have HB := hide_ hb
  clear hb
  go_wp2
  go_ret
  exact ⟨ret_i64T HR.out, HW.out.trans HB.out⟩

end Go.Proofs.Ytkjgplcfoihohaa