/-
  Texts of this claim put together: TabX.
-/
import Derived.Test.YtnkjdijbfnmnhaaGreatJ30
import Derived.Test.YtnkjdijbfnmnhaaGreatJ29
/-
  What a rule ahead of all others makes; rules as rows of one's own.
-/
namespace Go.Proofs.YtnkjdijbfnmnhaaGreat
open Go.RowKit

def newRu (fr ac pa d : Int) : RuM := ⟨fr, ac, pa, d, ⟨none, 0, []⟩, ⟨none, 0, []⟩, ⟨none, 0, []⟩⟩
theorem newRu_ok {w : World} {B : Nat} {fr ac pa d : Int} (h1 : I64 fr) (h2 : I64 ac) (h3 : I64 pa) (h4 : I64 d) : RuM.ok w B (newRu fr ac pa d) :=
  ⟨⟨h1, h2, h3, h4⟩, ⟨by simp [newRu], by simp [newRu, maxLen], Sees.empty _ _ _, by simp [newRu]⟩, ⟨by simp [newRu], by simp [newRu, maxLen], Sees.empty _ _ _, by simp [newRu]⟩, ⟨by simp [newRu], by simp [newRu, maxLen], Sees.empty _ _ _, by simp [newRu]⟩⟩

theorem rule_info : (Tryz.prog.info? 174).map (fun i => (i.zero, i.size, i.bytes)) = some (some (.agg #[.int .i64 0, .int .i64 0, .int .i64 0, .int .i64 0, .slice none 0 0, .slice none 0 0, .slice none 0 0]), 7, 104) := by kernel_rfl

theorem ru_one (l : List RuM) : ∀ u ∈ l.flatMap RuM.cs, u.oneCell' = true := by
  intro u hu
  obtain ⟨x, _, hx⟩ := List.mem_flatMap.1 hu
  simp only [RuM.cs, List.mem_cons, List.not_mem_nil, or_false, Sl.v] at hx
  rcases hx with rfl | rfl | rfl | rfl | rfl | rfl | rfl <;> rfl

theorem ru_flat_len (l : List RuM) : (l.flatMap RuM.cs).length = l.length * 7 := flat_len (cs := RuM.cs) (q := 7) (fun _ => rfl) l

theorem own_bounds {w : World} {base n c size : Nat} {e : TypeId} {A : Option Addr} {xs : List Value} (h : w.ownsRow base e size (.slice A n c) n xs) : n ≤ c ∧ c ≤ maxLen := by
  rcases h.2 with ⟨hv, rfl⟩ | ⟨g, cap, cur, hv, _, _, hc, hm, _⟩
  · injection hv with _ _ hc
    subst hc
    exact ⟨Nat.le_refl _, by simp [maxLen]⟩
  · injection hv with _ _ hc'
    subst hc'
    exact ⟨hc, hm⟩
/-- rules in a row of one's own -/

theorem rus_own {w : World} {base c : Nat} {A : Option Addr} {l : List RuM} (h : w.ownsRow base 174 7 (.slice A l.length c) l.length (l.flatMap RuM.cs)) (hl : ∀ x ∈ l, RuM.ok w w.heap.size x) : rusOk w w.heap.size ⟨A, c, l⟩ :=
  ⟨(own_bounds h).1, (own_bounds h).2, Sees.ownRow h, hl⟩

theorem newRu_may {st vs fr ac pa d : Int} (h1 : 0 ≤ fr ∧ fr ≤ st - 1) (h2 : 0 ≤ ac ∧ ac ≤ 31) (h3 : 0 ≤ pa ∧ pa ≤ 7) (h4 : 0 ≤ d ∧ d ≤ st - 1) : ruB st vs (newRu fr ac pa d) = true := by
  unfold ruB newRu
  simp only
  rw [inB_true.2 h1, inB_true.2 h4, inB_true.2 h2, inB_true.2 h3]
  rfl
theorem mayT_mk {st vs : Int} {l : List RuM} (h1 : 1 ≤ st ∧ st ≤ 32) (h2 : 0 ≤ vs ∧ vs ≤ 8) (h3 : l.length ≤ 32) (h : ∀ (k : Nat) (x : RuM), l[k]? = some x → ruB st vs x = true) : mayT st vs l = true := by
  unfold mayT
  rw [inB_true.2 h1, inB_true.2 h2, rusB_all h3 fun j hj => by rw [ruX_at' (List.getElem?_eq_getElem hj), h j _ (List.getElem?_eq_getElem hj)]; rfl]
  rfl
theorem mayT_cons {st vs : Int} {l : List RuM} {x : RuM} (h : mayT st vs l = true) (hx : ruB st vs x = true) (hn : l.length ≤ 31) : mayT st vs (x :: l) = true := by
  have hm := mayT_num h
  refine mayT_mk hm.1 hm.2.1 (by simp; omega) fun k y hy => ?_
  rcases k with _ | k
  · simp at hy
    subst hy
    exact hx
  · exact mayT_rule h (by simpa using hy)
theorem holdsB_nil (vars : List Int) (arg : Int) : holdsB [] vars arg = true := rfl
theorem first_fire {st vs : Int} {l : List RuM} {k : Nat} {r : RuM} {d : Int} {vars : List Int} (arg : Int) (h : mayT st vs l = true) (hr : l[k]? = some r) (hn : l.length ≤ 31) (hd : 0 ≤ d ∧ d < st) (hv : (vars.length : Int) = vs) :
    fireR st vs (newRu r.fr r.ac r.pa d :: l) r.fr r.ac r.pa vars arg = (d, vars, [], 0) ∧ findI st vs (newRu r.fr r.ac r.pa d :: l) r.fr r.ac r.pa vars arg = 0 := by
  obtain ⟨h1, -, h2, h3, -⟩ := ruB_parts (mayT_rule h hr)
  have hm := mayT_cons h (newRu_may (vs := vs) h1 h2 h3 (show 0 ≤ d ∧ d ≤ st - 1 by omega)) hn
  have hf : fireB st vs (newRu r.fr r.ac r.pa d :: l) vars = true := by
    unfold fireB
    rw [hm, decide_eq_true hv]
    rfl
  have hi : idxO (takX r.fr r.ac r.pa vars arg (newRu r.fr r.ac r.pa d :: l)) (newRu r.fr r.ac r.pa d :: l).length = some 0 := by
    refine idx_hit (by simp) ?_ fun j hj => absurd hj (by omega)
    rw [takX_at (x := newRu r.fr r.ac r.pa d) rfl]
    unfold isFor newRu
    simp [holdsB_nil]
  constructor
  · unfold fireR
    rw [if_pos hf, hi]
    rfl
  · unfold findI
    rw [if_pos hf]
    unfold takI idxI
    rw [hi]
    rfl
end Go.Proofs.YtnkjdijbfnmnhaaGreat
