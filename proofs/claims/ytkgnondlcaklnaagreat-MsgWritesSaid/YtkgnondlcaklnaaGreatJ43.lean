/-
  Texts of this claim put together: TkRu, TkTab, TkGet, GetReg, GetReg2.
-/
import Derived.Test.YtkgnondlcaklnaaGreatJ41
import Derived.Test.YtkgnondlcaklnaaGreatJ23
import Derived.Test.YtkgnondlcaklnaaGreatJ42
import Derived.Test.YtkgnondlcaklnaaGreatJ38
/-
  Contract of table's taker's method rule.
-/
namespace Go.Proofs.YtkgnondlcaklnaaGreat
open Go.RowKit

end Go.Proofs.YtkgnondlcaklnaaGreat
/-
  Contract of table's taker's method table.
-/
namespace Go.Proofs.YtkgnondlcaklnaaGreat
open Go.RowKit

end Go.Proofs.YtkgnondlcaklnaaGreat
/-
  What is put is got: contracts' bytes taken again; contract of table's Get.
-/
namespace Go.Proofs.YtkgnondlcaklnaaGreat
open Go.RowKit

theorem iterS_putg {α β : Type} {f : RS → β × RS} {b : α → List UInt8} {g : α → β} : ∀ (l : List α) (t : List UInt8), (∀ x ∈ l, ∀ t, f (b x ++ t, 0) = (g x, (t, 0))) → iterS f l.length (l.flatMap b ++ t, 0) = (l.map g, (t, 0)) := by
  intro l
  induction l with
  | nil => intro t _; rfl
  | cons x l ih =>
    intro t h
    rw [List.flatMap_cons, List.length_cons, List.append_assoc]
    show ((f _).1 :: (iterS f l.length (f _).2).1, (iterS f l.length (f _).2).2) = _
    rw [h x (by simp), ih t fun y hy => h y (by simp [hy])]
    rfl
theorem manyS_putg {α β : Type} {f : RS → β × RS} {b : α → List UInt8} {g : α → β} {most : Nat} (l : List α) (t : List UInt8) (hm : l.length ≤ most) (hl : l.length < 18446744073709551616) (h : ∀ x ∈ l, ∀ t, f (b x ++ t, 0) = (g x, (t, 0))) : manyS most f (natB l.length ++ (l.flatMap b ++ t), 0) = (l.map g, (t, 0)) := by
  unfold manyS
  rw [show natB (l.length : Int) = numB l.length from rfl, numS_put _ hl hm]
  exact iterS_putg l t h
theorem natS_put {n : Int} {most : Nat} (t : List UInt8) (_ : 0 ≤ n) (hm : n ≤ most) (h : most < 18446744073709551616) : numS most (natB n ++ t, 0) = (n.toNat, (t, 0)) := numS_put (x := n.toNat) t (by omega) (by omega)
theorem natS_back {n : Int} (h0 : 0 ≤ n) : ((n.toNat : Nat) : Int) = n := by omega

theorem tokS_put {t : Int × Int} (h : TokIn t) (r : List UInt8) : tokS (tokB t ++ r, 0) = (t, (r, 0)) := by
  obtain ⟨a, b⟩ := t
  have h1 := h.1
  have h2 := h.2.1
  have h3 := h.2.2
  simp only at h1 h2 h3
  unfold tokS tokB
  simp only [List.append_assoc]
  rw [natS_put _ h1 (by omega) (by omega)]
  simp only
  rw [intS_put r h3.1 h3.2, natS_back h1]
theorem fmlS_put {l : List (Int × Int)} (h : ∀ t ∈ l, TokIn t) (h24 : l.length ≤ 24) (r : List UInt8) : fmlS (fmlB l ++ r, 0) = (l, (r, 0)) := by
  unfold fmlS fmlB
  rw [List.append_assoc, manyS_putg (g := id) l r h24 (by omega) (fun x hx t => tokS_put (h x hx) t), List.map_id]
theorem setS_put {s : SetM} (hv : 0 ≤ s.var ∧ s.var ≤ 1000) (h : ∀ t ∈ s.val.l, TokIn t) (h24 : s.val.l.length ≤ 24) (r : List UInt8) : setS (setBy s ++ r, 0) = (s.bare, (r, 0)) := by
  unfold setS setBy
  simp only [List.append_assoc]
  rw [natS_put _ hv.1 (by omega) (by omega)]
  simp only
  rw [fmlS_put h h24, natS_back hv.1]
  rfl
theorem emS_put {s : EmM} (hv : 0 ≤ s.tg ∧ s.tg ≤ 255) (ha : 0 ≤ s.ac ∧ s.ac ≤ 1000) (h : ∀ t ∈ s.arg.l, TokIn t) (h24 : s.arg.l.length ≤ 24) (r : List UInt8) : emS (emBy s ++ r, 0) = (s.bare, (r, 0)) := by
  unfold emS emBy
  simp only [List.append_assoc]
  rw [natS_put _ hv.1 (by omega) (by omega)]
  simp only
  rw [natS_put _ ha.1 (by omega) (by omega)]
  simp only
  rw [fmlS_put h h24, natS_back hv.1, natS_back ha.1]
  rfl
theorem ruleS_put {w : World} {B : Nat} {st vs : Int} {r : RuM} (hok : RuM.ok w B r) (hm : ruB st vs r = true) (hst : st ≤ 32) (hvs : vs ≤ 8) (t : List UInt8) : ruleS (ruBy r ++ t, 0) = (r.bare, (t, 0)) := by
  have hs := ruS_of hm
  have hp := ruP_of hm
  obtain ⟨p1, p2, p3, p4, -, p6, p7⟩ := ruB_parts hm
  unfold ruleS ruBy
  simp only [List.append_assoc]
  rw [natS_put _ hp.1.1 (by omega) (by omega)]
  simp only
  rw [natS_put _ hp.1.2.1 (by omega) (by omega)]
  simp only
  rw [natS_put _ hp.1.2.2.1 (by omega) (by omega)]
  simp only
  rw [natS_put _ hp.1.2.2.2 (by omega) (by omega)]
  simp only
  rw [fmlS_put hok.2.1.2.2.2 hs.1]
  simp only
  unfold setsBy
  rw [List.append_assoc, manyS_putg (g := SetM.bare) r.se.l _ hs.2.1.1 (Nat.lt_of_le_of_lt hs.2.1.1 (by omega)) (fun x hx t => by
    obtain ⟨k, hk, rfl⟩ := List.getElem_of_mem hx
    have h1 := setsB_at p6 (List.getElem?_eq_getElem hk)
    exact setS_put ⟨hp.2.1 _ hx, by omega⟩ (hok.2.2.1.2.2.2 _ hx).2.2.2.2 (hs.2.1.2 _ hx) t)]
  simp only
  unfold emsBy
  rw [List.append_assoc, manyS_putg (g := EmM.bare) r.em.l _ hs.2.2.1 (Nat.lt_of_le_of_lt hs.2.2.1 (by omega)) (fun x hx t => by
    obtain ⟨k, hk, rfl⟩ := List.getElem_of_mem hx
    have h1 := emsB_at p7 (List.getElem?_eq_getElem hk)
    exact emS_put (hok.2.2.2.2.2.2 _ hx).1 ⟨hp.2.2 _ hx, by omega⟩ (hok.2.2.2.2.2.2 _ hx).2.2.2.2.2 (hs.2.2.2 _ hx) t)]
  simp only
  rw [natS_back hp.1.1, natS_back hp.1.2.1, natS_back hp.1.2.2.1, natS_back hp.1.2.2.2]
  rfl
theorem tabS_put {w : World} {B : Nat} {st vs : Int} {s : Sl RuM} (hok : rusOk w B s) (hm : mayT st vs s.l = true) (t : List UInt8) : tabS (tabBy st vs s.l ++ t, 0) = ((st, vs, s.l.map RuM.bare), (t, 0)) := by
  have hn := mayT_num hm
  unfold tabS tabBy
  simp only [List.append_assoc]
  rw [natS_put _ (by omega) (by omega) (by omega)]
  simp only
  rw [natS_put _ hn.2.1.1 (by omega) (by omega)]
  simp only
  rw [manyS_putg (g := RuM.bare) s.l _ hn.2.2 (by omega) (fun x hx t => by
    obtain ⟨k, hk, rfl⟩ := List.getElem_of_mem hx
    exact ruleS_put (hok.2.2.2 _ hx) (mayT_rule hm (List.getElem?_eq_getElem hk)) hn.1.2 hn.2.1.2 t)]
  simp only
  rw [natS_back (by omega), natS_back hn.2.1.1]

theorem bare_leastB (l : List SetM) (k : Nat) : leastB (l.map SetM.bare) k = leastB l k := by
  rcases k with _ | k
  · rfl
  · simp only [leastB, List.getElem?_map]
    cases l[k]? <;> rfl
theorem bare_setsB (vs : Int) (l : List SetM) : setsB vs (l.map SetM.bare) = setsB vs l := by
  unfold setsB
  rw [List.length_map, anyB_congr fun k _ => show setX vs (l.map SetM.bare) k = setX vs l k by
    unfold setX
    rw [List.getElem?_map, bare_leastB]
    cases l[k]? <;> rfl]
theorem bare_emsB (vs : Int) (l : List EmM) : emsB vs (l.map EmM.bare) = emsB vs l := by
  unfold emsB
  rw [List.length_map, anyB_congr fun k _ => show emX vs (l.map EmM.bare) k = emX vs l k by
    unfold emX
    rw [List.getElem?_map]
    cases l[k]? <;> rfl]
theorem bare_ruB (st vs : Int) (r : RuM) : ruB st vs r.bare = ruB st vs r := by
  unfold ruB RuM.bare
  simp only
  rw [bare_setsB, bare_emsB]
theorem bare_mayT (st vs : Int) (l : List RuM) : mayT st vs (l.map RuM.bare) = mayT st vs l := by
  unfold mayT rusB
  rw [List.length_map, anyB_congr fun k _ => show ruX st vs (l.map RuM.bare) k = ruX st vs l k by
    unfold ruX
    rw [List.getElem?_map]
    cases l[k]? with
    | none => rfl
    | some r => simp only [Option.map_some, bare_ruB]]
theorem bare_flat {α : Type} {f : α → α} {b : α → List UInt8} (h : ∀ x, b (f x) = b x) (l : List α) : (l.map f).flatMap b = l.flatMap b := by
  induction l with
  | nil => rfl
  | cons x l ih => rw [List.map_cons, List.flatMap_cons, List.flatMap_cons, ih, h]
theorem bare_ruBy (r : RuM) : ruBy r.bare = ruBy r := by
  unfold ruBy RuM.bare setsBy emsBy
  simp only [List.length_map]
  rw [bare_flat (f := SetM.bare) (b := setBy) (fun _ => rfl), bare_flat (f := EmM.bare) (b := emBy) (fun _ => rfl)]
theorem bare_tabBy (st vs : Int) (l : List RuM) : tabBy st vs (l.map RuM.bare) = tabBy st vs l := by
  unfold tabBy
  rw [List.length_map, bare_flat bare_ruBy]
theorem bare_putR (st vs : Int) (l : List RuM) : putR st vs (l.map RuM.bare) = putR st vs l := by
  unfold putR
  rw [bare_mayT, bare_tabBy]
theorem putR_of {st vs : Int} {l m : List RuM} (h : l.map RuM.bare = m.map RuM.bare) : putR st vs l = putR st vs m := by rw [← bare_putR, h, bare_putR]

end Go.Proofs.YtkgnondlcaklnaaGreat
/-
  Contract of reg's Get; what is put is taken, what is cut off is short: plain facts on lists.
-/
namespace Go.Proofs.YtkgnondlcaklnaaGreat
open Go.RowKit

theorem bigS_put {n : Int} (t : List UInt8) (h : U64 n) : numBig (natB n ++ t, 0) = (n.toNat, (t, 0)) := by
  unfold U64 at h
  exact numS_put (x := n.toNat) t (by omega) (by omega)
theorem bigS_cuts {n : Int} (h : U64 n) : Cuts numBig (natB n) := by
  unfold U64 at h
  exact numS_cuts (x := n.toNat) (by omega)
theorem natS_cuts {n : Int} {most : Nat} (h : n ≤ 1000000) : Cuts (numS most) (natB n) := numS_cuts (x := n.toNat) (by omega)
theorem bigS_holds : Holds2 numBig := rfl
/-- one thing behind another -/
theorem cut_step {α β : Type} {f : RS → α × RS} {h : RS → β × RS} {b c : List UInt8} (hc : Cuts f b) (hput : ∀ t, (f (b ++ t, 0)).2 = (t, 0)) (hh : (h ([], 2)).2 = ([], 2)) (hn : ∀ k, k < c.length → (h (c.take k, 0)).2 = ([], 2)) : ∀ k, k < (b ++ c).length → (h (f ((b ++ c).take k, 0)).2).2 = ([], 2) := fun k hk => by
  rw [List.length_append] at hk
  by_cases h1 : k < b.length
  · rw [take_app_lt h1, hc k h1, hh]
  · rw [take_app_ge (by omega), hput]
    exact hn _ (by omega)

theorem varS_put {l : List Int} (h : ∀ x ∈ l, I64 x) (h1 : l.length ≤ 1000) (t : List UInt8) : varS (varB l ++ t, 0) = (l, (t, 0)) := by
  unfold varS varB
  rw [List.append_assoc, manyS_putg (b := intB) (g := id) l t h1 (by omega) (fun x hx t => intS_put t (h x hx).1 (h x hx).2), List.map_id]
theorem varS_holds : Holds2 varS := manyS_holds intS_holds
theorem varS_cuts {l : List Int} (h : ∀ x ∈ l, I64 x) (h1 : l.length ≤ 1000) : Cuts varS (varB l) := by
  unfold varB
  exact manyS_cuts intS_holds l h1 (by omega) fun x hx => ⟨fun t => intS_put t (h x hx).1 (h x hx).2, intS_cuts (h x hx).1 (h x hx).2⟩

/-- an entry's numbers have room -/
def DonOk (d : DoneP) : Prop := U8 d.1 ∧ U64 d.2.1 ∧ (0 ≤ d.2.2.1 ∧ d.2.2.1 ≤ 1000) ∧ U64 d.2.2.2.1 ∧ (0 ≤ d.2.2.2.2.1 ∧ d.2.2.2.2.1 ≤ 1000) ∧ (∀ x ∈ d.2.2.2.2.2, I64 x) ∧ d.2.2.2.2.2.length ≤ 1000
theorem back {n : Int} (h : 0 ≤ n) : ((n.toNat : Nat) : Int) = n := by omega
theorem doneS_put {d : DoneP} (h : DonOk d) (t : List UInt8) : doneS (donB d ++ t, 0) = (d, (t, 0)) := by
  obtain ⟨cl, sq, er, inc, st, va⟩ := d
  obtain ⟨h1, h2, h3, h4, h5, h6, h7⟩ := h
  simp only at h1 h2 h3 h4 h5 h6 h7
  have g1 := h1
  have g2 := h2
  have g4 := h4
  unfold U8 at g1
  unfold U64 at g2 g4
  unfold doneS repS donB
  simp only [List.append_assoc]
  rw [natS_put _ g1.1 (by omega) (by omega)]
  simp only
  rw [bigS_put _ h2]
  simp only
  rw [natS_put _ h3.1 (by omega) (by omega)]
  simp only
  rw [bigS_put _ h4]
  simp only
  rw [natS_put _ h5.1 (by omega) (by omega)]
  simp only
  rw [varS_put h6 h7, back g1.1, back g2.1, back h3.1, back g4.1, back h5.1]
theorem repS_holds : Holds2 repS := rfl
theorem doneS_holds : Holds2 doneS := rfl
theorem doneS_cuts {d : DoneP} (h : DonOk d) : Cuts doneS (donB d) := by
  obtain ⟨cl, sq, er, inc, st, va⟩ := d
  obtain ⟨h1, h2, h3, h4, h5, h6, h7⟩ := h
  simp only at h1 h2 h3 h4 h5 h6 h7
  have g1 := h1
  unfold U8 at g1
  intro k hk
  unfold donB at hk ⊢
  simp only at hk ⊢
  refine cut_step (h := fun s => ((), (repS (numBig s).2).2)) (natS_cuts (by omega)) (fun t => by rw [natS_put _ g1.1 (by omega) (by omega)]) rfl ?_ k hk
  refine cut_step (h := fun s => ((), (repS s).2)) (bigS_cuts h2) (fun t => by rw [bigS_put _ h2]) rfl ?_
  refine cut_step (h := fun s => ((), (varS (numS 1000 (numBig s).2).2).2)) (natS_cuts (by omega)) (fun t => by rw [natS_put _ h3.1 (by omega) (by omega)]) rfl ?_
  refine cut_step (h := fun s => ((), (varS (numS 1000 s).2).2)) (bigS_cuts h4) (fun t => by rw [bigS_put _ h4]) rfl ?_
  refine cut_step (h := fun s => ((), (varS s).2)) (natS_cuts (by omega)) (fun t => by rw [natS_put _ h5.1 (by omega) (by omega)]) rfl ?_
  exact varS_cuts h6 h7

def CelOk (c : CelM) : Prop := celIn c ∧ (0 ≤ c.2.2.1 ∧ c.2.2.1 ≤ 1000)
theorem celS_put {c : CelM} (h : CelOk c) (t : List UInt8) : celS (celB c ++ t, 0) = (c, (t, 0)) := by
  obtain ⟨n, tg, ac, ar⟩ := c
  obtain ⟨⟨h1, h2, h3, h4⟩, h5⟩ := h
  simp only at h1 h2 h3 h4 h5
  have g1 := h1
  have g2 := h2
  unfold U64 at g1
  unfold U8 at g2
  unfold celS celB
  simp only [List.append_assoc]
  rw [bigS_put _ h1]
  simp only
  rw [natS_put _ g2.1 (by omega) (by omega)]
  simp only
  rw [natS_put _ h5.1 (by omega) (by omega)]
  simp only
  rw [intS_put t h4.1 h4.2, back g1.1, back g2.1, back h5.1]
theorem celS_holds : Holds2 celS := rfl
theorem celS_cuts {c : CelM} (h : CelOk c) : Cuts celS (celB c) := by
  obtain ⟨n, tg, ac, ar⟩ := c
  obtain ⟨⟨h1, h2, h3, h4⟩, h5⟩ := h
  simp only at h1 h2 h3 h4 h5
  have g2 := h2
  unfold U8 at g2
  intro k hk
  unfold celB at hk ⊢
  simp only at hk ⊢
  refine cut_step (h := fun s => ((), (intS (numS 1000 (numS 255 s).2).2).2)) (bigS_cuts h1) (fun t => by rw [bigS_put _ h1]) rfl ?_ k hk
  refine cut_step (h := fun s => ((), (intS (numS 1000 s).2).2)) (natS_cuts (by omega)) (fun t => by rw [natS_put _ g2.1 (by omega) (by omega)]) rfl ?_
  refine cut_step (h := fun s => ((), (intS s).2)) (natS_cuts (by omega)) (fun t => by rw [natS_put _ h5.1 (by omega) (by omega)]) rfl ?_
  exact intS_cuts h4.1 h4.2
theorem mrkS_put {m : MrkM} (h : mrkIn m) (t : List UInt8) : mrkS (mrkB m ++ t, 0) = (m, (t, 0)) := by
  obtain ⟨a, b, c⟩ := m
  obtain ⟨h1, h2, h3⟩ := h
  simp only at h1 h2 h3
  have g1 := h1
  have g2 := h2
  have g3 := h3
  unfold U8 at g1
  unfold U64 at g2 g3
  unfold mrkS mrkB
  simp only [List.append_assoc]
  rw [natS_put _ g1.1 (by omega) (by omega)]
  simp only
  rw [bigS_put _ h2]
  simp only
  rw [bigS_put _ h3, back g1.1, back g2.1, back g3.1]
theorem mrkS_holds : Holds2 mrkS := rfl
theorem mrkS_cuts {m : MrkM} (h : mrkIn m) : Cuts mrkS (mrkB m) := by
  obtain ⟨a, b, c⟩ := m
  obtain ⟨h1, h2, h3⟩ := h
  simp only at h1 h2 h3
  have g1 := h1
  unfold U8 at g1
  intro k hk
  unfold mrkB at hk ⊢
  simp only at hk ⊢
  refine cut_step (h := fun s => ((), (numBig (numBig s).2).2)) (natS_cuts (by omega)) (fun t => by rw [natS_put _ g1.1 (by omega) (by omega)]) rfl ?_ k hk
  refine cut_step (h := fun s => ((), (numBig s).2)) (bigS_cuts h2) (fun t => by rw [bigS_put _ h2]) rfl ?_
  exact bigS_cuts h3

/-- a register that may be, whose numbers have room -/
structure RegOk (r : RegP) : Prop where
  ki : U8 r.ki
  inc : U64 r.inc
  st : 0 ≤ r.st ∧ r.st ≤ 1000
  va : (∀ x ∈ r.va, I64 x) ∧ r.va.length ≤ 1000
  dn : (∀ d ∈ r.dn, DonOk d) ∧ r.dn.length ≤ 1000
  ou : (∀ c ∈ r.ou, CelOk c) ∧ r.ou.length ≤ 1000
  la : U64 r.la
  ma : (∀ m ∈ r.ma, mrkIn m) ∧ r.ma.length ≤ 1000
theorem regOk_of {w : World} {B : Nat} {x : RegM} (hx : RegM.ok w B x) (hm : mayG x.p = true) : RegOk x.p := by
  by_cases h0 : x.p.ki = 0
  · unfold mayG at hm
    rw [if_pos h0, decide_eq_true_eq] at hm
    rw [hm]
    constructor <;> simp [zeroP, U8, U64]
  · obtain ⟨-, h1, h2, h3, h4⟩ := stn_parts (may_stn hm h0).1
    refine ⟨hx.1.1, hx.1.2.1, ⟨h1.1.1, by have := h1.1.2; omega⟩, ⟨hx.2.1.2.2.2, by have := h1.2; omega⟩, ⟨fun d hd => ?_, by have := h2.1; omega⟩, ⟨fun c hc => ⟨hx.2.2.2.1.2.2.2 c hc, (h3.2 c hc).1, by have := (h3.2 c hc).2; omega⟩, by have := h3.1; omega⟩, hx.1.2.2.2, ⟨hx.2.2.2.2.2.2.2, by omega⟩⟩
    obtain ⟨y, hy, rfl⟩ := List.mem_map.1 hd
    have hy2 := hx.2.2.1.2.2.2 y hy
    have hy3 := h2.2 _ hd
    exact ⟨hy2.1.1, hy2.1.2.1, ⟨hy3.2.1.1, by have := hy3.2.1.2; omega⟩, hy2.1.2.2.2.1, ⟨hy3.2.2.1.1, by have := hy3.2.2.1.2; omega⟩, hy2.2.2.2.2, by have := hy3.2.2.2; omega⟩
theorem natS_len_put {α : Type} {n : Nat} (_ : α) (t : List UInt8) (h : n ≤ 1000) : numS 1000 (natB n ++ t, 0) = (n, (t, 0)) := by
  rw [natS_put _ (by omega) (by omega) (by omega)]
  simp
theorem regS_put {r : RegP} (h : RegOk r) (h0 : r.ki ≠ 0) (t : List UInt8) : regS (regB r ++ t, 0) = (r, (t, 0)) := by
  obtain ⟨ki, inc, st, va, dn, ou, la, ma⟩ := r
  obtain ⟨hk, hi, hs, hv, hd, ho, hl, hm⟩ := h
  simp only at hk hi hs hv hd ho hl hm h0
  have g1 := hk
  have g2 := hi
  have g3 := hl
  unfold U8 at g1
  unfold U64 at g2 g3
  unfold regS regB
  simp only [if_neg h0, List.append_assoc]
  rw [natS_put _ g1.1 (by omega) (by omega)]
  simp only
  rw [bigS_put _ hi]
  simp only
  rw [natS_put _ hs.1 (by omega) (by omega)]
  simp only
  rw [varS_put hv.1 hv.2]
  simp only
  rw [manyS_putg (b := donB) (g := id) dn _ hd.2 (Nat.lt_of_le_of_lt hd.2 (by omega)) (fun x hx t => doneS_put (hd.1 x hx) t)]
  simp only
  rw [manyS_putg (b := celB) (g := id) ou _ ho.2 (Nat.lt_of_le_of_lt ho.2 (by omega)) (fun x hx t => celS_put (ho.1 x hx) t)]
  simp only
  rw [bigS_put _ hl]
  simp only
  rw [manyS_putg (b := mrkB) (g := id) ma _ hm.2 (Nat.lt_of_le_of_lt hm.2 (by omega)) (fun x hx t => mrkS_put (hm.1 x hx) t)]
  simp only [List.map_id]
  rw [if_neg (by omega), back g1.1, back g2.1, back hs.1, back g3.1]
theorem regS_zero (t : List UInt8) : regS (regB zeroP ++ t, 0) = (zeroP, (t, 0)) := by
  unfold regS regB zeroP
  simp only [if_true, List.append_nil]
  rw [natS_put _ (by omega) (by omega) (by omega)]
  simp
theorem regS_err : (regS ([], 2)).2 = ([], 2) := rfl
end Go.Proofs.YtkgnondlcaklnaaGreat

/-
  Contract of reg's Get.
-/
namespace Go.Proofs.YtkgnondlcaklnaaGreat
open Go.RowKit

theorem regS_cuts {r : RegP} (h : RegOk r) : Cuts regS (regB r) := by
  intro k hk
  have hh : ∀ s : RS, s = ([], 2) → (manyS 1000 mrkS (numBig (manyS 1000 celS (manyS 1000 doneS (varS (numS 1000 (numBig s).2).2).2).2).2).2).2 = ([], 2) := fun s e => by subst e; rfl
  have hki := h.ki
  unfold U8 at hki
  have hex : (regS ((regB r).take k, 0)).2 = if (numS 255 ((regB r).take k, 0)).1 = 0 then (numS 255 ((regB r).take k, 0)).2 else (manyS 1000 mrkS (numBig (manyS 1000 celS (manyS 1000 doneS (varS (numS 1000 (numBig (numS 255 ((regB r).take k, 0)).2).2).2).2).2).2).2).2 := by
    unfold regS
    simp only
    split <;> rfl
  rw [hex]
  unfold regB at hk ⊢
  rw [List.length_append] at hk
  by_cases h1 : k < (natB r.ki).length
  · rw [take_app_lt h1, natS_cuts (by omega) k h1]
    split
    · rfl
    · exact hh _ rfl
  · by_cases h0 : r.ki = 0
    · rw [if_pos h0] at hk
      simp at hk
      omega
    · rw [take_app_ge (by omega), natS_put _ hki.1 (by omega) (by omega)]
      simp only
      rw [if_neg (by omega)]
      rw [if_neg h0] at hk ⊢
      obtain ⟨ki, inc, st, va, dn, ou, la, ma⟩ := r
      obtain ⟨_, hi, hs, hv, hd, ho, hl, hm⟩ := h
      simp only at hi hs hv hd ho hl hm hk h1 ⊢
      have hkk : k - (natB ki).length < (natB inc ++ (natB st ++ (varB va ++ ((natB dn.length ++ dn.flatMap donB) ++ ((natB ou.length ++ ou.flatMap celB) ++ (natB la ++ (natB ma.length ++ ma.flatMap mrkB))))))).length := by omega
      revert hkk
      generalize k - (natB ki).length = j
      intro hj
      have cd : Cuts (manyS 1000 doneS) (natB dn.length ++ dn.flatMap donB) := manyS_cuts doneS_holds dn hd.2 (Nat.lt_of_le_of_lt hd.2 (by omega)) fun x hx => ⟨doneS_put (hd.1 x hx), doneS_cuts (hd.1 x hx)⟩
      have cc : Cuts (manyS 1000 celS) (natB ou.length ++ ou.flatMap celB) := manyS_cuts celS_holds ou ho.2 (Nat.lt_of_le_of_lt ho.2 (by omega)) fun x hx => ⟨celS_put (ho.1 x hx), celS_cuts (ho.1 x hx)⟩
      have cm : Cuts (manyS 1000 mrkS) (natB ma.length ++ ma.flatMap mrkB) := manyS_cuts mrkS_holds ma hm.2 (Nat.lt_of_le_of_lt hm.2 (by omega)) fun x hx => ⟨mrkS_put (hm.1 x hx), mrkS_cuts (hm.1 x hx)⟩
      refine cut_step (h := fun s => ((), (manyS 1000 mrkS (numBig (manyS 1000 celS (manyS 1000 doneS (varS (numS 1000 s).2).2).2).2).2).2)) (bigS_cuts hi) (fun t => by rw [bigS_put _ hi]) rfl ?_ j hj
      refine cut_step (h := fun s => ((), (manyS 1000 mrkS (numBig (manyS 1000 celS (manyS 1000 doneS (varS s).2).2).2).2).2)) (natS_cuts (by omega)) (fun t => by rw [natS_put _ hs.1 (by omega) (by omega)]) rfl ?_
      refine cut_step (h := fun s => ((), (manyS 1000 mrkS (numBig (manyS 1000 celS (manyS 1000 doneS s).2).2).2).2)) (varS_cuts hv.1 hv.2) (fun t => by rw [varS_put hv.1 hv.2]) rfl ?_
      refine cut_step (h := fun s => ((), (manyS 1000 mrkS (numBig (manyS 1000 celS s).2).2).2)) cd (fun t => by rw [List.append_assoc, manyS_putg (b := donB) (g := id) dn t hd.2 (Nat.lt_of_le_of_lt hd.2 (by omega)) (fun x hx t => doneS_put (hd.1 x hx) t)]) rfl ?_
      refine cut_step (h := fun s => ((), (manyS 1000 mrkS (numBig s).2).2)) cc (fun t => by rw [List.append_assoc, manyS_putg (b := celB) (g := id) ou t ho.2 (Nat.lt_of_le_of_lt ho.2 (by omega)) (fun x hx t => celS_put (ho.1 x hx) t)]) rfl ?_
      refine cut_step (h := fun s => ((), (manyS 1000 mrkS s).2)) (bigS_cuts hl) (fun t => by rw [bigS_put _ hl]) rfl ?_
      exact cm
theorem regS_ok {s : RS} (h : RSok s) : RSok (regS s).2 := by
  unfold regS
  simp only
  split
  · exact (numS_ok h).1
  · exact manyS_ok (fun _ h => mrkS_ok h) (numBig_ok (manyS_ok (fun _ h => celS_ok h) (manyS_ok (fun _ h => doneS_ok h) (varS_ok (numS_ok (numBig_ok (numS_ok h).1).1).1)))).1

theorem failed6_any {g : Nat} {s : RS} {w : World} (h : Rdr w g s.1 s.2) (hs : RSok s) : Calls Tryz.prog 123 #[takerV g] w fun e w' => e = .returned (.bool (!(decide (s.2 = 0)))) ∧ Below w.heap.size w w' := by
  have H := hide_ (h.made (.cells #[.pointer (some ⟨g, 0, none⟩)] 170))
  have HE := hide_ (End_st H.out)
  obtain ⟨q, hq⟩ : ∃ q, endS s = q := ⟨_, rfl⟩
  rw [hq] at HE
  have hc : (s.2 = 0 ∧ (q = 0 ∨ q = 4)) ∨ (s.2 ≠ 0 ∧ q ≠ 0 ∧ q ≠ 4) := by
    rw [← hq]
    unfold endS
    rcases hs.1 with h0 | h0 | h0 | h0
    · left
      rw [if_pos h0]
      refine ⟨h0, ?_⟩
      split <;> simp
    all_goals (right; rw [if_neg (by omega)]; omega)
  unfold takerV
  clear h hs hq
  rcases hc with ⟨h0, h1 | h1⟩ | ⟨h0, h1, h2⟩
  · have HD := hide_ (show (!(decide (s.2 = 0))) = false by simp [h0])
    subst h1
    clear h0
    go_enter Tryz.func123, Tryz.ntmps123
    go_wp2_with (refine HE.out.mono ?_; rintro e w1 ⟨rfl, rfl⟩)
    go_ret
    exact ⟨ret_boolT HD.out.symm, (Below.refl _ _).alloc (Nat.le_refl _) _⟩
  · have HD := hide_ (show (!(decide (s.2 = 0))) = false by simp [h0])
    subst h1
    clear h0
    go_enter Tryz.func123, Tryz.ntmps123
    go_wp2_with (refine HE.out.mono ?_; rintro e w1 ⟨rfl, rfl⟩)
    go_ret
    exact ⟨ret_boolT HD.out.symm, (Below.refl _ _).alloc (Nat.le_refl _) _⟩
  · have HD := hide_ (show (!(decide (s.2 = 0))) = true by simp [h0])
    have b0 : (q != 0) = true := bne_iff_ne.2 h1
    have b4 : (q != 4) = true := bne_iff_ne.2 h2
    clear h0 h1 h2
    go_enter Tryz.func123, Tryz.ntmps123
    go_wp2_with (refine HE.out.mono ?_; rintro e w1 ⟨rfl, rfl⟩)
    go_ret
    exact ⟨ret_boolT HD.out.symm, (Below.refl _ _).alloc (Nat.le_refl _) _⟩

def getS (s : RS) : RegP × RS := if (regS s).2.2 = 0 then (if mayG (regS s).1 then regS s else (zeroP, ([], 3))) else (zeroP, (regS s).2)

end Go.Proofs.YtkgnondlcaklnaaGreat
