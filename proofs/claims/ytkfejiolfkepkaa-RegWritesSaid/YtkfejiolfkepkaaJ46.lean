/-
  Texts of this claim put together: TkRu, TkTab, TkGet.
-/
import Derived.Test.YtkfejiolfkepkaaJ41
import Derived.Test.YtkfejiolfkepkaaJ19
/-
  Contract of table's taker's method rule.
-/
namespace Go.Proofs.Ytkfejiolfkepkaa
open Go.RowKit

end Go.Proofs.Ytkfejiolfkepkaa
/-
  Contract of table's taker's method table.
-/
namespace Go.Proofs.Ytkfejiolfkepkaa
open Go.RowKit

end Go.Proofs.Ytkfejiolfkepkaa
/-
  What is put is got: contracts' bytes taken again; contract of table's Get.
-/
namespace Go.Proofs.Ytkfejiolfkepkaa
open Go.RowKit

theorem iterS_putg {α β : Type} {f : RS → β × RS} {b : α → List UInt8} {g : α → β} : ∀ (l : List α) (t : List UInt8), (∀ x ∈ l, ∀ t, f (b x ++ t, 0) = (g x, (t, 0))) → iterS f l.length (l.flatMap b ++ t, 0) = (l.map g, (t, 0)) := by
  intro l
  induction l with
  | nil => intro t _; rfl
  | cons x l ih =>
    intro t h
    rw [List.flatMap_cons, List.length_cons, List.append_assoc]
    show ((f _).1 :: (iterS f l.length (f _).2).1, (iterS f l.length (f _).2).2) = _
    rw [h x (by simp), ih t fun y hy => h y (by simp [hy])]
    rfl
theorem manyS_putg {α β : Type} {f : RS → β × RS} {b : α → List UInt8} {g : α → β} {most : Nat} (l : List α) (t : List UInt8) (hm : l.length ≤ most) (hl : l.length < 18446744073709551616) (h : ∀ x ∈ l, ∀ t, f (b x ++ t, 0) = (g x, (t, 0))) : manyS most f (natB l.length ++ (l.flatMap b ++ t), 0) = (l.map g, (t, 0)) := by
  unfold manyS
  rw [show natB (l.length : Int) = numB l.length from rfl, numS_put _ hl hm]
  exact iterS_putg l t h
theorem natS_put {n : Int} {most : Nat} (t : List UInt8) (_ : 0 ≤ n) (hm : n ≤ most) (h : most < 18446744073709551616) : numS most (natB n ++ t, 0) = (n.toNat, (t, 0)) := numS_put (x := n.toNat) t (by omega) (by omega)
theorem natS_back {n : Int} (h0 : 0 ≤ n) : ((n.toNat : Nat) : Int) = n := by omega

theorem tokS_put {t : Int × Int} (h : TokIn t) (r : List UInt8) : tokS (tokB t ++ r, 0) = (t, (r, 0)) := by
  obtain ⟨a, b⟩ := t
  have h1 := h.1
  have h2 := h.2.1
  have h3 := h.2.2
  simp only at h1 h2 h3
  unfold tokS tokB
  simp only [List.append_assoc]
  rw [natS_put _ h1 (by omega) (by omega)]
  simp only
  rw [intS_put r h3.1 h3.2, natS_back h1]
theorem fmlS_put {l : List (Int × Int)} (h : ∀ t ∈ l, TokIn t) (h24 : l.length ≤ 24) (r : List UInt8) : fmlS (fmlB l ++ r, 0) = (l, (r, 0)) := by
  unfold fmlS fmlB
  rw [List.append_assoc, manyS_putg (g := id) l r h24 (by omega) (fun x hx t => tokS_put (h x hx) t), List.map_id]
theorem setS_put {s : SetM} (hv : 0 ≤ s.var ∧ s.var ≤ 1000) (h : ∀ t ∈ s.val.l, TokIn t) (h24 : s.val.l.length ≤ 24) (r : List UInt8) : setS (setBy s ++ r, 0) = (s.bare, (r, 0)) := by
  unfold setS setBy
  simp only [List.append_assoc]
  rw [natS_put _ hv.1 (by omega) (by omega)]
  simp only
  rw [fmlS_put h h24, natS_back hv.1]
  rfl
theorem emS_put {s : EmM} (hv : 0 ≤ s.tg ∧ s.tg ≤ 255) (ha : 0 ≤ s.ac ∧ s.ac ≤ 1000) (h : ∀ t ∈ s.arg.l, TokIn t) (h24 : s.arg.l.length ≤ 24) (r : List UInt8) : emS (emBy s ++ r, 0) = (s.bare, (r, 0)) := by
  unfold emS emBy
  simp only [List.append_assoc]
  rw [natS_put _ hv.1 (by omega) (by omega)]
  simp only
  rw [natS_put _ ha.1 (by omega) (by omega)]
  simp only
  rw [fmlS_put h h24, natS_back hv.1, natS_back ha.1]
  rfl
theorem ruleS_put {w : World} {B : Nat} {st vs : Int} {r : RuM} (hok : RuM.ok w B r) (hm : ruB st vs r = true) (hst : st ≤ 32) (hvs : vs ≤ 8) (t : List UInt8) : ruleS (ruBy r ++ t, 0) = (r.bare, (t, 0)) := by
  have hs := ruS_of hm
  have hp := ruP_of hm
  obtain ⟨p1, p2, p3, p4, -, p6, p7⟩ := ruB_parts hm
  unfold ruleS ruBy
  simp only [List.append_assoc]
  rw [natS_put _ hp.1.1 (by omega) (by omega)]
  simp only
  rw [natS_put _ hp.1.2.1 (by omega) (by omega)]
  simp only
  rw [natS_put _ hp.1.2.2.1 (by omega) (by omega)]
  simp only
  rw [natS_put _ hp.1.2.2.2 (by omega) (by omega)]
  simp only
  rw [fmlS_put hok.2.1.2.2.2 hs.1]
  simp only
  unfold setsBy
  rw [List.append_assoc, manyS_putg (g := SetM.bare) r.se.l _ hs.2.1.1 (Nat.lt_of_le_of_lt hs.2.1.1 (by omega)) (fun x hx t => by
    obtain ⟨k, hk, rfl⟩ := List.getElem_of_mem hx
    have h1 := setsB_at p6 (List.getElem?_eq_getElem hk)
    exact setS_put ⟨hp.2.1 _ hx, by omega⟩ (hok.2.2.1.2.2.2 _ hx).2.2.2.2 (hs.2.1.2 _ hx) t)]
  simp only
  unfold emsBy
  rw [List.append_assoc, manyS_putg (g := EmM.bare) r.em.l _ hs.2.2.1 (Nat.lt_of_le_of_lt hs.2.2.1 (by omega)) (fun x hx t => by
    obtain ⟨k, hk, rfl⟩ := List.getElem_of_mem hx
    have h1 := emsB_at p7 (List.getElem?_eq_getElem hk)
    exact emS_put (hok.2.2.2.2.2.2 _ hx).1 ⟨hp.2.2 _ hx, by omega⟩ (hok.2.2.2.2.2.2 _ hx).2.2.2.2.2 (hs.2.2.2 _ hx) t)]
  simp only
  rw [natS_back hp.1.1, natS_back hp.1.2.1, natS_back hp.1.2.2.1, natS_back hp.1.2.2.2]
  rfl
theorem tabS_put {w : World} {B : Nat} {st vs : Int} {s : Sl RuM} (hok : rusOk w B s) (hm : mayT st vs s.l = true) (t : List UInt8) : tabS (tabBy st vs s.l ++ t, 0) = ((st, vs, s.l.map RuM.bare), (t, 0)) := by
  have hn := mayT_num hm
  unfold tabS tabBy
  simp only [List.append_assoc]
  rw [natS_put _ (by omega) (by omega) (by omega)]
  simp only
  rw [natS_put _ hn.2.1.1 (by omega) (by omega)]
  simp only
  rw [manyS_putg (g := RuM.bare) s.l _ hn.2.2 (by omega) (fun x hx t => by
    obtain ⟨k, hk, rfl⟩ := List.getElem_of_mem hx
    exact ruleS_put (hok.2.2.2 _ hx) (mayT_rule hm (List.getElem?_eq_getElem hk)) hn.1.2 hn.2.1.2 t)]
  simp only
  rw [natS_back (by omega), natS_back hn.2.1.1]

theorem bare_leastB (l : List SetM) (k : Nat) : leastB (l.map SetM.bare) k = leastB l k := by
  rcases k with _ | k
  · rfl
  · simp only [leastB, List.getElem?_map]
    cases l[k]? <;> rfl
theorem bare_setsB (vs : Int) (l : List SetM) : setsB vs (l.map SetM.bare) = setsB vs l := by
  unfold setsB
  rw [List.length_map, anyB_congr fun k _ => show setX vs (l.map SetM.bare) k = setX vs l k by
    unfold setX
    rw [List.getElem?_map, bare_leastB]
    cases l[k]? <;> rfl]
theorem bare_emsB (vs : Int) (l : List EmM) : emsB vs (l.map EmM.bare) = emsB vs l := by
  unfold emsB
  rw [List.length_map, anyB_congr fun k _ => show emX vs (l.map EmM.bare) k = emX vs l k by
    unfold emX
    rw [List.getElem?_map]
    cases l[k]? <;> rfl]
theorem bare_ruB (st vs : Int) (r : RuM) : ruB st vs r.bare = ruB st vs r := by
  unfold ruB RuM.bare
  simp only
  rw [bare_setsB, bare_emsB]
theorem bare_mayT (st vs : Int) (l : List RuM) : mayT st vs (l.map RuM.bare) = mayT st vs l := by
  unfold mayT rusB
  rw [List.length_map, anyB_congr fun k _ => show ruX st vs (l.map RuM.bare) k = ruX st vs l k by
    unfold ruX
    rw [List.getElem?_map]
    cases l[k]? with
    | none => rfl
    | some r => simp only [Option.map_some, bare_ruB]]
theorem bare_flat {α : Type} {f : α → α} {b : α → List UInt8} (h : ∀ x, b (f x) = b x) (l : List α) : (l.map f).flatMap b = l.flatMap b := by
  induction l with
  | nil => rfl
  | cons x l ih => rw [List.map_cons, List.flatMap_cons, List.flatMap_cons, ih, h]
theorem bare_ruBy (r : RuM) : ruBy r.bare = ruBy r := by
  unfold ruBy RuM.bare setsBy emsBy
  simp only [List.length_map]
  rw [bare_flat (f := SetM.bare) (b := setBy) (fun _ => rfl), bare_flat (f := EmM.bare) (b := emBy) (fun _ => rfl)]
theorem bare_tabBy (st vs : Int) (l : List RuM) : tabBy st vs (l.map RuM.bare) = tabBy st vs l := by
  unfold tabBy
  rw [List.length_map, bare_flat bare_ruBy]
theorem bare_putR (st vs : Int) (l : List RuM) : putR st vs (l.map RuM.bare) = putR st vs l := by
  unfold putR
  rw [bare_mayT, bare_tabBy]
theorem putR_of {st vs : Int} {l m : List RuM} (h : l.map RuM.bare = m.map RuM.bare) : putR st vs l = putR st vs m := by rw [← bare_putR, h, bare_putR]

end Go.Proofs.Ytkfejiolfkepkaa