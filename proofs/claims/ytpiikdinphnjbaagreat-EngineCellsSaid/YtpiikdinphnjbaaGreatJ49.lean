/-
  Texts of this claim put together: Good7, Abs7, Once7, Aside7.
-/
import Derived.Test.YtpiikdinphnjbaaGreatJ48
/-
  What an operation leaves may be; what is done twice: plain mathematics.
-/
namespace Go.Proofs.YtpiikdinphnjbaaGreat
open Go.RowKit

theorem dnsB_iff {l : List DoneP} : dnsB l = true ↔ risB (l.map (·.1)) 1 8 = true ∧ ∀ d ∈ l, d.2.1 ≠ 0 ∧ repB d.2.2 = true := by
  unfold dnsB
  rw [Bool.and_eq_true, Bool.not_eq_true', anyB_false]
  constructor
  · rintro ⟨h1, h2⟩
    refine ⟨h1, fun d hd => ?_⟩
    obtain ⟨k, hk, rfl⟩ := List.getElem_of_mem hd
    have := h2 k hk
    rw [dnX_at (List.getElem?_eq_getElem hk)] at this
    simpa using this
  · rintro ⟨h1, h2⟩
    refine ⟨h1, fun k hk => ?_⟩
    rw [dnX_at (List.getElem?_eq_getElem hk)]
    have := h2 _ (List.getElem_mem hk)
    simp [this.1, this.2]
theorem ousB_iff {l : List CelM} {la : Int} : ousB l la = true ↔ l.length ≤ 8 ∧ risB (l.map (·.1)) 1 la = true ∧ ∀ c ∈ l, c.2.1 < 16 ∧ 0 ≤ c.2.2.1 ∧ c.2.2.1 ≤ 31 := by
  unfold ousB
  rw [Bool.and_eq_true, Bool.and_eq_true, decide_eq_true_eq, Bool.not_eq_true', anyB_false]
  constructor
  · rintro ⟨h0, h1, h2⟩
    refine ⟨h0, h1, fun d hd => ?_⟩
    obtain ⟨k, hk, rfl⟩ := List.getElem_of_mem hd
    have := h2 k hk
    rw [ouX_at (List.getElem?_eq_getElem hk)] at this
    simp only [Bool.or_eq_false_iff, decide_eq_false_iff_not, Bool.not_eq_false'] at this
    have h3 := inB_true.1 this.2
    exact ⟨by omega, h3.1, h3.2⟩
  · rintro ⟨h0, h1, h2⟩
    refine ⟨h0, h1, fun k hk => ?_⟩
    rw [ouX_at (List.getElem?_eq_getElem hk)]
    have := h2 _ (List.getElem_mem hk)
    simp only [Bool.or_eq_false_iff, decide_eq_false_iff_not, Bool.not_eq_false']
    exact ⟨by omega, inB_true.2 this.2⟩
theorem mksB_iff {l : List MrkM} : mksB l = true ↔ risB (l.map (·.1)) 0 15 = true ∧ ∀ m ∈ l, m.2.1 ≠ 0 ∧ m.2.2 ≠ 0 := by
  unfold mksB
  rw [Bool.and_eq_true, Bool.not_eq_true', anyB_false]
  constructor
  · rintro ⟨h1, h2⟩
    refine ⟨h1, fun d hd => ?_⟩
    obtain ⟨k, hk, rfl⟩ := List.getElem_of_mem hd
    have := h2 k hk
    rw [mkX_at (List.getElem?_eq_getElem hk)] at this
    simpa using this
  · rintro ⟨h1, h2⟩
    refine ⟨h1, fun k hk => ?_⟩
    rw [mkX_at (List.getElem?_eq_getElem hk)]
    have := h2 _ (List.getElem_mem hk)
    simp [this.1, this.2]
theorem stnB_iff {r : RegP} : stnB r = true ↔ r.inc ≠ 0 ∧ staB r.st r.va = true ∧ dnsB r.dn = true ∧ ousB r.ou r.la = true ∧ mksB r.ma = true := by
  unfold stnB
  simp only [Bool.and_eq_true, Bool.not_eq_true', decide_eq_false_iff_not, ne_eq]
theorem staB_iff {st : Int} {va : List Int} : staB st va = true ↔ (0 ≤ st ∧ st ≤ 31) ∧ va.length ≤ 8 := by
  unfold staB
  rw [Bool.and_eq_true, decide_eq_true_eq, inB_true]
theorem ousB_nil (la : Int) : ousB [] la = true := ousB_iff.2 ⟨by simp, risB_true.2 (by simp), by simp⟩
theorem dnsB_nil : dnsB [] = true := dnsB_iff.2 ⟨risB_true.2 (by simp), by simp⟩
theorem mksB_nil : mksB [] = true := mksB_iff.2 ⟨risB_true.2 (by simp), by simp⟩
/-- which registers may be, in cases -/
theorem mayG_cases {r : RegP} : mayG r = true ↔ r = zeroP ∨ (r.ki = 1 ∧ stnB r = true) ∨ (r.ki = 2 ∧ stnB r = true ∧ r.st = 0 ∧ r.va = [] ∧ r.ou = []) := by
  unfold mayG
  by_cases k0 : r.ki = 0
  · rw [if_pos k0, decide_eq_true_eq]
    constructor
    · exact .inl
    · rintro (h | ⟨h, -⟩ | ⟨h, -⟩)
      · exact h
      · omega
      · omega
  · rw [if_neg k0]
    have hz : r ≠ zeroP := fun h => k0 (by rw [h]; rfl)
    by_cases k1 : r.ki = 1
    · rw [if_pos k1]
      constructor
      · exact fun h => .inr (.inl ⟨k1, h⟩)
      · rintro (h | ⟨-, h⟩ | ⟨h, -⟩)
        · exact absurd h hz
        · exact h
        · omega
    · rw [if_neg k1]
      by_cases k2 : r.ki = 2
      · rw [if_pos k2]
        simp only [Bool.and_eq_true, decide_eq_true_eq, List.length_eq_zero_iff]
        constructor
        · rintro ⟨h1, h2, h3, h4⟩
          exact .inr (.inr ⟨k2, h1, h2, h3, h4⟩)
        · rintro (h | ⟨h, -⟩ | ⟨-, h1, h2, h3, h4⟩)
          · exact absurd h hz
          · omega
          · exact ⟨h1, h2, h3, h4⟩
      · rw [if_neg k2]
        constructor
        · intro h; cases h
        · rintro (h | ⟨h, -⟩ | ⟨h, -⟩)
          · exact absurd h hz
          · omega
          · omega
/-- what stands in a register that may be, whichever it is -/
theorem mayG_lists {r : RegP} (h : mayG r = true) : dnsB r.dn = true ∧ mksB r.ma = true := by
  rcases mayG_cases.1 h with rfl | ⟨-, h⟩ | ⟨-, h, -⟩
  · exact ⟨dnsB_nil, mksB_nil⟩
  · exact ⟨(stnB_iff.1 h).2.2.1, (stnB_iff.1 h).2.2.2.2⟩
  · exact ⟨(stnB_iff.1 h).2.2.1, (stnB_iff.1 h).2.2.2.2⟩
def GoodG (tv : Int) (r : RegP) : Prop := mayG r = true ∧ (r.ki = 1 → (r.va.length : Int) = tv)
theorem right_good {ts tv : Int} {tl : List RuM} {r : RegP} {o : OpM} {cn : Int} (h : rightB ts tv tl r o cn = true) : GoodG tv r := by
  unfold rightB at h
  simp only [Bool.and_eq_true, Bool.or_eq_true, Bool.not_eq_true', decide_eq_false_iff_not, decide_eq_true_eq] at h
  exact ⟨h.2.2.1, fun hk => h.2.2.2.2.resolve_left (fun hn => hn hk)⟩
theorem right_of {ts tv : Int} {tl : List RuM} {r r2 : RegP} {o : OpM} {cn cn2 : Int} (h : rightB ts tv tl r o cn = true) (hg : GoodG tv r2) (hc : cn2 ≠ 0) : rightB ts tv tl r2 o cn2 = true := by
  unfold rightB at h ⊢
  simp only [Bool.and_eq_true, Bool.or_eq_true, Bool.not_eq_true', decide_eq_false_iff_not, decide_eq_true_eq] at h ⊢
  refine ⟨hc, h.2.1, hg.1, h.2.2.2.1, ?_⟩
  by_cases k : r2.ki = 1
  · exact .inr (hg.2 k)
  · exact .inl k

theorem numG_ris (la : Int) (l : List (Int × Int × Int)) : ∀ c ∈ numG la l, la < c.1 ∧ c.1 ≤ la + l.length := by
  induction l generalizing la with
  | nil => simp [numG]
  | cons d l ih =>
    intro c hc
    simp only [numG, List.mem_cons] at hc
    rcases hc with rfl | hc
    · simp only [List.length_cons]
      omega
    · have := ih (la + 1) c hc
      simp only [List.length_cons]
      omega
theorem numG_pair (la : Int) (l : List (Int × Int × Int)) : ((numG la l).map (·.1)).Pairwise (fun x y => x < y) := by
  induction l generalizing la with
  | nil => simp [numG]
  | cons d l ih =>
    simp only [numG, List.map_cons, List.pairwise_cons]
    refine ⟨fun x hx => ?_, ih (la + 1)⟩
    obtain ⟨c, hc, rfl⟩ := List.mem_map.1 hx
    exact (numG_ris (la + 1) l c hc).1
theorem numG_mem (la : Int) (l : List (Int × Int × Int)) {c : CelM} (h : c ∈ numG la l) : ∃ d ∈ l, c.2.1 = d.1 ∧ c.2.2.1 = d.2.1 := by
  induction l generalizing la with
  | nil => simp [numG] at h
  | cons d l ih =>
    simp only [numG, List.mem_cons] at h
    rcases h with rfl | h
    · exact ⟨d, by simp, rfl, rfl⟩
    · obtain ⟨e, he, h1⟩ := ih (la + 1) h
      exact ⟨e, List.mem_cons_of_mem _ he, h1⟩

theorem fire_good {ts tv : Int} {tl : List RuM} {r : RegP} (ac pa ar : Int) (h : GoodG tv r) (hla : 0 ≤ r.la) (ht : mayT ts tv tl = true) : GoodG tv (fireG ts tv tl r ac pa ar).1 := by
  have hs := fire_stays ts tv tl r.st ac pa r.va ar
  unfold fireG
  by_cases k1 : r.ki = 1
  case neg => rw [if_neg k1]; exact h
  rw [if_pos k1]
  revert hs
  rcases fireR ts tv tl r.st ac pa r.va ar with ⟨s, v, c, e⟩
  intro hs
  simp only
  by_cases he : e = 0
  case neg => rw [if_neg he]; exact h
  rw [if_pos he]
  subst he
  by_cases hq : roomB r c.length = true
  case neg => rw [if_neg hq]; exact h
  rw [if_pos hq]
  unfold roomB at hq
  rw [Bool.and_eq_true, decide_eq_true_eq, decide_eq_true_eq] at hq
  rcases hs with ⟨e, he, h3⟩ | ⟨s2, v2, c2, h3, h4, h5, h6, h7⟩
  · injection h3 with _ h3
    injection h3 with _ h3
    injection h3 with _ h3
    exact absurd h3.symm he
  injection h3 with h3 h8
  injection h8 with h8 h9
  injection h9 with h9 _
  subst h3 h8 h9
  have hst : stnB r = true := by
    rcases mayG_cases.1 h.1 with rfl | ⟨-, h⟩ | ⟨hk, -⟩
    · cases k1
    · exact h
    · omega
  obtain ⟨q1, q2, q3, q4, q5⟩ := stnB_iff.1 hst
  obtain ⟨o1, o2, o3⟩ := ousB_iff.1 q4
  have htn := mayT_num ht
  refine ⟨mayG_cases.2 (.inr (.inl ⟨k1, stnB_iff.2 ⟨q1, staB_iff.2 ⟨⟨h4.1, by have := h4.2; have := htn.1.2; simp only; omega⟩, by have := (staB_iff.1 q2).2; simp only; omega⟩, q3, ousB_iff.2 ⟨?_, ?_, ?_⟩, q5⟩⟩)), fun _ => h5.1⟩
  · simp only [List.length_append, numG_len]
    exact hq.1
  · simp only [List.map_append]
    refine ris_mk ?_ fun x hx => ?_
    · rw [List.pairwise_append]
      refine ⟨ris_of o2, numG_pair _ _, fun x hx y hy => ?_⟩
      have h10 := ris_in o2 x hx
      obtain ⟨d, hd, rfl⟩ := List.mem_map.1 hy
      have h11 := numG_ris r.la c d hd
      omega
    · rcases List.mem_append.1 hx with hx | hx
      · have h10 := ris_in o2 x hx
        omega
      · obtain ⟨d, hd, rfl⟩ := List.mem_map.1 hx
        have h11 := numG_ris r.la c d hd
        omega
  · intro x hx
    rcases List.mem_append.1 hx with hx | hx
    · exact o3 x hx
    · obtain ⟨d, hd, e1, e2⟩ := numG_mem _ _ hx
      have := h7 d hd
      rw [e1, e2]
      exact ⟨by omega, this.2⟩

theorem do_good {ts tv : Int} {tl : List RuM} {r : RegP} {o : OpM} {cn : Int} (h : rightB ts tv tl r o cn = true) (hla : 0 ≤ r.la) (hso : 0 ≤ o.so) : GoodG tv (doG ts tv tl r o cn).1 := by
  have hg := right_good h
  obtain ⟨hm, hmo, hmt, hcn⟩ := rightB_lens h
  have htn := mayT_num hmt
  have hml := mayG_lists hm
  have hmo2 := hmo
  unfold mayO at hmo2
  simp only [Bool.and_eq_true, decide_eq_true_eq] at hmo2
  have hkind := hmo2.2.2.2.2.2.2
  unfold doG
  by_cases k1 : o.ki = 1
  · rw [if_pos k1]
    unfold createG
    split
    · exact hg
    · refine ⟨mayG_cases.2 (.inr (.inl ⟨rfl, stnB_iff.2 ⟨hcn, staB_iff.2 ⟨by simp, ?_⟩, hml.1, ousB_nil _, hml.2⟩⟩)), fun _ => ?_⟩
      · simp only [List.length_replicate]
        omega
      · simp only [List.length_replicate]
        omega
  rw [if_neg k1]
  by_cases k2 : o.ki = 2
  · rw [if_pos k2]
    exact fire_good _ _ _ hg hla hmt
  rw [if_neg k2]
  by_cases k3 : o.ki = 3
  · rw [if_pos k3]
    unfold readG
    split <;> exact hg
  rw [if_neg k3]
  by_cases k4 : o.ki = 4
  · rw [if_pos k4]
    unfold removeG
    split
    · rename_i hk
      split
      · have hst : stnB r = true := by
          rcases mayG_cases.1 hm with rfl | ⟨-, h⟩ | ⟨hk2, -⟩
          · cases hk
          · exact h
          · omega
        obtain ⟨q1, q2, q3, q4, q5⟩ := stnB_iff.1 hst
        exact ⟨mayG_cases.2 (.inr (.inr ⟨rfl, stnB_iff.2 ⟨q1, staB_iff.2 ⟨by simp, by simp⟩, q3, ousB_nil _, q5⟩, rfl, rfl, rfl⟩)), fun h => by cases h⟩
      · exact hg
    · exact hg
  rw [if_neg k4]
  by_cases k5 : o.ki = 5
  · rw [if_pos k5]
    unfold mayKindB at hkind
    rw [if_neg k1, if_neg k3, if_neg k4, if_neg k2, if_pos k5] at hkind
    simp only [Bool.and_eq_true, Bool.not_eq_true', decide_eq_false_iff_not] at hkind
    unfold consumeG
    split
    · exact hg
    · split
      · rename_i hk
        have hf := fire_good o.ac 0 o.ar hg hla hmt (ts := ts) (tl := tl)
        have hki := (fireG_facts ts tv tl r o.ac 0 o.ar).2.2
        revert hf hki
        rcases fireG ts tv tl r o.ac 0 o.ar with ⟨y, e⟩
        intro hf hki
        simp only at hf hki ⊢
        have hst : stnB y = true := by
          rcases mayG_cases.1 hf.1 with rfl | ⟨-, h⟩ | ⟨hk2, -⟩
          · rw [hk] at hki; cases hki
          · exact h
          · omega
        obtain ⟨q1, q2, q3, q4, q5⟩ := stnB_iff.1 hst
        obtain ⟨m1, m2⟩ := mksB_iff.1 q5
        refine ⟨mayG_cases.2 (.inr (.inl ⟨by rw [← hk, ← hki], stnB_iff.2 ⟨q1, q2, q3, q4, mksB_iff.2 ⟨putL_ris m1 hso (by simp only; omega), fun m hmm => ?_⟩⟩⟩)), fun _ => hf.2 (by rw [hki]; exact hk)⟩
        rcases putL_mem hmm with rfl | hmm
        · exact hkind.2
        · exact m2 m hmm
      · exact hg
  rw [if_neg k5]
  by_cases k6 : o.ki = 6
  · rw [if_pos k6]
    unfold clearG
    simp only
    split
    · have hfil : ∀ {la : Int}, ousB r.ou la = true → ousB (r.ou.filter (fun c => !(decide (c.1 = o.ce)))) la = true := fun {la} hq => by
        obtain ⟨o1, o2, o3⟩ := ousB_iff.1 hq
        refine ousB_iff.2 ⟨Nat.le_trans (List.length_filter_le _ _) o1, ris_mk ?_ fun x hx => ?_, fun c hc => o3 c (List.mem_filter.1 hc).1⟩
        · exact List.Pairwise.sublist (List.Sublist.map _ List.filter_sublist) (ris_of o2)
        · obtain ⟨c, hc, rfl⟩ := List.mem_map.1 hx
          exact ris_in o2 _ (List.mem_map.2 ⟨c, (List.mem_filter.1 hc).1, rfl⟩)
      rcases mayG_cases.1 hm with hz | ⟨hk, h⟩ | ⟨hk, h, h2, h3, h4⟩
      · subst hz
        exact hg
      · obtain ⟨q1, q2, q3, q4, q5⟩ := stnB_iff.1 h
        exact ⟨mayG_cases.2 (.inr (.inl ⟨hk, stnB_iff.2 ⟨q1, q2, q3, hfil q4, q5⟩⟩)), hg.2⟩
      · obtain ⟨q1, q2, q3, q4, q5⟩ := stnB_iff.1 h
        exact ⟨mayG_cases.2 (.inr (.inr ⟨hk, stnB_iff.2 ⟨q1, q2, q3, hfil q4, q5⟩, h2, h3, by simp only [h4]; rfl⟩)), hg.2⟩
    · exact hg
  rw [if_neg k6]
  exact hg

theorem note_good {tv : Int} {r : RegP} {o : OpM} {p : RepP} (h : GoodG tv r) (hm : mayO o = true) (hc : 0 ≤ o.cl) (hp : repB p = true) : GoodG tv (noteG r o p) := by
  unfold mayO at hm
  simp only [Bool.and_eq_true, decide_eq_true_eq, beq_iff_eq] at hm
  unfold noteG
  by_cases c0 : o.cl = 0
  · rw [if_pos c0]; exact h
  rw [if_neg c0]
  have hsq : o.sq ≠ 0 := fun e => by
    have h1 := hm.2.2.2.1
    rw [e] at h1
    simp [c0] at h1
  by_cases k0 : r.ki = 0
  · rw [if_pos k0]; exact h
  rw [if_neg k0]
  have hd : dnsB r.dn = true → dnsB (putL (·.1) r.dn (o.cl, o.sq, p)) = true := fun hd => by
    obtain ⟨d1, d2⟩ := dnsB_iff.1 hd
    refine dnsB_iff.2 ⟨putL_ris d1 (by simp only; omega) hm.2.2.1, fun d hdm => ?_⟩
    rcases putL_mem hdm with rfl | hdm
    · exact ⟨hsq, hp⟩
    · exact d2 d hdm
  rcases mayG_cases.1 h.1 with rfl | ⟨hk, h1⟩ | ⟨hk, h1, h2, h3, h4⟩
  · exact absurd rfl k0
  · obtain ⟨q1, q2, q3, q4, q5⟩ := stnB_iff.1 h1
    exact ⟨mayG_cases.2 (.inr (.inl ⟨hk, stnB_iff.2 ⟨q1, q2, hd q3, q4, q5⟩⟩)), h.2⟩
  · obtain ⟨q1, q2, q3, q4, q5⟩ := stnB_iff.1 h1
    exact ⟨mayG_cases.2 (.inr (.inr ⟨hk, stnB_iff.2 ⟨q1, q2, hd q3, q4, q5⟩, h2, h3, h4⟩)), h.2⟩
theorem reply_good {tv : Int} {r : RegP} {e : Int} (h : GoodG tv r) (he : 0 ≤ e ∧ e ≤ 20) : repB (replyG r e) = true := by
  have hz : ∀ x : Int, 0 ≤ x → x ≤ 20 → repB (x, 0, 0, []) = true := fun x h1 h2 => by
    unfold repB
    rw [Bool.and_eq_true]
    exact ⟨inB_true.2 ⟨h1, by omega⟩, staB_iff.2 (by simp)⟩
  unfold replyG
  split
  · split
    · rename_i hk
      rcases mayG_cases.1 h.1 with rfl | ⟨-, h1⟩ | ⟨hk2, -⟩
      · cases hk
      · unfold repB
        rw [Bool.and_eq_true]
        exact ⟨inB_true.2 (by simp), (stnB_iff.1 h1).2.1⟩
      · omega
    · exact hz 0 (by omega) (by omega)
  · exact hz e he.1 he.2
/-- what comes of an operation may be -/
theorem apply_good {ts tv : Int} {tl : List RuM} {r : RegP} {o : OpM} {cn : Int} (h : rightB ts tv tl r o cn = true) (hla : 0 ≤ r.la) (ho : OpM.ok o) : GoodG tv (applyG ts tv tl r o cn).1 := by
  have hd := do_good h hla ho.2.2.2.1.1
  obtain ⟨hm, hmo, hmt, hcn⟩ := rightB_lens h
  have he := (doG_facts ts tv tl r o cn (by have := (mayT_num hmt).2.1; omega) (by have := (mayG_ris hm).2.2.2; omega)).1
  unfold applyG
  cases againG r.dn o with
  | some p => exact right_good h
  | none =>
    unfold pickG
    simp only
    exact note_good hd hmo ho.1.2.2.1 (reply_good hd he)
/-- the one entry of its client -/
theorem again_one {l : List DoneP} {o : OpM} {d : DoneP} (hd : d ∈ l) (h1 : d.1 = o.cl) (h2 : o.sq ≤ d.2.1) (hu : ∀ e ∈ l, e.1 = o.cl → e = d) : againG l o = some (if o.sq < d.2.1 then (15, 0, 0, []) else d.2.2) := by
  unfold againG
  cases hi : idxO (againK o l) l.length with
  | none =>
    obtain ⟨k, hk, rfl⟩ := List.getElem_of_mem hd
    unfold idxO at hi
    rw [List.find?_eq_none] at hi
    have := hi k (by rw [List.mem_range]; exact hk)
    unfold againK againX at this
    rw [List.getElem?_eq_getElem hk] at this
    simp [h1, h2] at this
  | some k =>
    obtain ⟨hk, hp, -⟩ := idx_some hi
    simp only [List.getElem?_eq_getElem hk]
    unfold againK againX at hp
    rw [List.getElem?_eq_getElem hk] at hp
    simp only [Bool.and_eq_true, decide_eq_true_eq] at hp
    rw [hu _ (List.getElem_mem hk) hp.1]
theorem again_put {l : List DoneP} {o : OpM} {p : RepP} : againG (putL (·.1) l (o.cl, o.sq, p)) o = some p := by
  have h := again_one (o := o) (mem_putL (·.1) l (o.cl, o.sq, p)) rfl (Int.le_refl _) (fun e he hk => by
    unfold putL at he
    rcases List.mem_append.1 he with he | he
    · have := (List.mem_filter.1 he).2
      simp only [decide_eq_true_eq] at this
      omega
    · rcases List.mem_cons.1 he with rfl | he
      · rfl
      · have := (List.mem_filter.1 he).2
        simp only [decide_eq_true_eq] at this
        omega)
  rw [h, if_neg (by simp)]
/-- what a client's operation does where nothing is and nothing comes to be -/
theorem do_nothing {ts tv : Int} {tl : List RuM} {r : RegP} {o : OpM} {cn : Int} (hm : mayG r = true) (hk : (doG ts tv tl r o cn).1.ki = 0) : r = zeroP ∧ o.ki ≠ 1 := by
  have hki : r.ki = 0 ∧ o.ki ≠ 1 := by
    unfold doG at hk
    split at hk
    · unfold createG at hk
      split at hk
      · rename_i h1
        exact absurd (h1.symm.trans hk) (by simp)
      · cases hk
    · rename_i k1
      refine ⟨?_, k1⟩
      split at hk
      · rw [(fireG_facts ts tv tl r o.ac o.pa o.ar).2.2] at hk
        exact hk
      · split at hk
        · unfold readG at hk
          split at hk <;> exact hk
        · split at hk
          · unfold removeG at hk
            split at hk
            · split at hk
              · cases hk
              · exact hk
            · exact hk
          · split at hk
            · unfold consumeG at hk
              split at hk
              · exact hk
              · split at hk
                · have := (fireG_facts ts tv tl r o.ac 0 o.ar).2.2
                  revert hk this
                  rcases fireG ts tv tl r o.ac 0 o.ar with ⟨y, e⟩
                  intro hk this
                  simp only at hk this
                  omega
                · exact hk
            · split at hk
              · unfold clearG at hk
                simp only at hk
                split at hk <;> exact hk
              · exact hk
  rcases mayG_cases.1 hm with h | ⟨h, -⟩ | ⟨h, -⟩
  · exact ⟨h, hki.2⟩
  · omega
  · omega
theorem do_cn {ts tv : Int} {tl : List RuM} {r : RegP} {o : OpM} {cn cn2 : Int} (h : o.ki ≠ 1) : doG ts tv tl r o cn = doG ts tv tl r o cn2 := by
  unfold doG
  rw [if_neg h, if_neg h]
/-- what is done twice under the same client and number is done once -/
theorem apply_twice {ts tv : Int} {tl : List RuM} {r : RegP} {o : OpM} {cn cn2 : Int} (h : rightB ts tv tl r o cn = true) (hc : o.cl ≠ 0) (hso : 0 ≤ o.so) : applyG ts tv tl (applyG ts tv tl r o cn).1 o cn2 = ((applyG ts tv tl r o cn).1, (applyG ts tv tl r o cn).2) := by
  obtain ⟨hm, hmo, hmt, hcn⟩ := rightB_lens h
  cases ha : againG r.dn o with
  | some p =>
    have e1 : applyG ts tv tl r o cn = (r, p) := by unfold applyG; rw [ha]; rfl
    rw [e1]
    show applyG ts tv tl r o cn2 = (r, p)
    unfold applyG
    rw [ha]
    rfl
  | none =>
    obtain ⟨x, hx⟩ : ∃ x, doG ts tv tl r o cn = x := ⟨_, rfl⟩
    have e1 : applyG ts tv tl r o cn = (noteG x.1 o (replyG x.1 x.2), replyG x.1 x.2) := by unfold applyG; rw [ha, hx]; rfl
    rw [e1]
    by_cases k0 : x.1.ki = 0
    · obtain ⟨rfl, hk⟩ := do_nothing hm (by rw [hx]; exact k0)
      have e2 : noteG x.1 o (replyG x.1 x.2) = x.1 := by unfold noteG; rw [if_neg hc, if_pos k0]
      rw [e2]
      have hg := do_good h (by simp [zeroP])
      have e3 : x.1 = zeroP := by
        rw [hx] at hg
        rcases mayG_cases.1 (hg hso).1 with h1 | ⟨h1, -⟩ | ⟨h1, -⟩
        · exact h1
        · omega
        · omega
      rw [e3] at e1 ⊢
      show applyG ts tv tl zeroP o cn2 = _
      unfold applyG
      rw [ha, do_cn (cn2 := cn) hk, hx]
      unfold pickG noteG
      simp only
      rw [if_neg hc, e3, if_pos (by rfl)]
    · have e2 : (noteG x.1 o (replyG x.1 x.2)).dn = putL (·.1) x.1.dn (o.cl, o.sq, replyG x.1 x.2) := by unfold noteG; rw [if_neg hc, if_neg k0]
      show applyG ts tv tl (noteG x.1 o (replyG x.1 x.2)) o cn2 = _
      unfold applyG
      rw [e2, again_put]
      rfl
/-- the lists of a register that may be are short -/
theorem lens_of {x : RegM} (h : mayG x.p = true) : x.va.l.length ≤ 50 ∧ x.dn.l.length ≤ 50 ∧ x.ou.l.length ≤ 50 ∧ x.ma.l.length ≤ 50 ∧ ∀ d ∈ x.dn.l, d.va.l.length ≤ 50 := by
  have h1 := mayG_ris h
  have h2 := mayG_lists h
  have h3 := dnsB_len h2.1
  have h4 := mksB_len h2.2
  simp only [RegM.p, List.length_map] at h1 h3 h4
  refine ⟨by omega, by omega, by omega, by omega, fun d hd => ?_⟩
  have h5 := ((dnsB_iff.1 h2.1).2 d.p (List.mem_map.2 ⟨d, hd, rfl⟩)).2
  unfold repB at h5
  rw [Bool.and_eq_true] at h5
  have h6 := (staB_iff.1 h5.2).2
  simp only [DoneM.p] at h6
  omega
end Go.Proofs.YtpiikdinphnjbaaGreat

/-
  What an operation comes to where nothing is: plain mathematics.
-/
namespace Go.Proofs.YtpiikdinphnjbaaGreat
open Go.RowKit

theorem do_absent {ts tv : Int} {tl : List RuM} {o : OpM} {cn : Int} (h1 : o.ki ≠ 1) : doG ts tv tl zeroP o cn = (zeroP, if o.ki = 6 ∨ o.ki = 7 ∨ ¬ (o.ki = 2 ∨ o.ki = 3 ∨ o.ki = 4 ∨ o.ki = 5) then 0 else 11) := by
  unfold doG
  rw [if_neg h1]
  by_cases k2 : o.ki = 2
  · rw [if_pos k2, if_neg (by omega)]
    unfold fireG
    rw [if_neg (by simp [zeroP])]
  rw [if_neg k2]
  by_cases k3 : o.ki = 3
  · rw [if_pos k3, if_neg (by omega)]
    unfold readG
    rw [if_neg (by simp [zeroP])]
  rw [if_neg k3]
  by_cases k4 : o.ki = 4
  · rw [if_pos k4, if_neg (by omega)]
    unfold removeG
    rw [if_neg (by simp [zeroP])]
  rw [if_neg k4]
  by_cases k5 : o.ki = 5
  · rw [if_pos k5, if_neg (by omega)]
    unfold consumeG
    rw [if_neg (by simp [zeroP, setdB, anyB, idxO]), if_neg (by simp [zeroP])]
  rw [if_neg k5]
  by_cases k6 : o.ki = 6
  · rw [if_pos k6, if_pos (by omega)]
    unfold clearG
    split <;> rfl
  rw [if_neg k6, if_pos (by omega)]
theorem apply_absent {ts tv : Int} {tl : List RuM} {o : OpM} {cn : Int} (h : rightB ts tv tl zeroP o cn = true) (h1 : o.ki ≠ 1) :
    (applyG ts tv tl zeroP o cn).1 = zeroP ∧ (applyG ts tv tl zeroP o cn).2.1 = if o.ki = 6 ∨ o.ki = 7 then 0 else 11 := by
  have hk := mayO_kind (rightB_lens h).2.1
  have ha : againG zeroP.dn o = none := rfl
  have hn : ∀ p, noteG zeroP o p = zeroP := fun p => by unfold noteG; split <;> rfl
  unfold applyG
  rw [ha, do_absent h1]
  unfold pickG
  simp only
  rw [hn]
  refine ⟨rfl, ?_⟩
  by_cases k : o.ki = 6 ∨ o.ki = 7
  · rw [if_pos (by omega), if_pos k]
    rfl
  · rw [if_neg (by omega), if_neg k]
    rfl
theorem apply_makes {ts tv : Int} {tl : List RuM} {r : RegP} {o : OpM} {cn : Int} (ha : againG r.dn o = none) (h1 : o.ki = 1) (hr : r.ki ≠ 1) :
    (applyG ts tv tl r o cn).1.ki = 1 ∧ (applyG ts tv tl r o cn).1.inc = cn ∧ (applyG ts tv tl r o cn).1.va = List.replicate tv.toNat 0 ∧ (applyG ts tv tl r o cn).1.ou = [] ∧ (applyG ts tv tl r o cn).1.la = 0 ∧ (applyG ts tv tl r o cn).1.ma = r.ma ∧ (applyG ts tv tl r o cn).2.2.1 = cn ∧ (applyG ts tv tl r o cn).2.1 = 0 := by
  have hd : doG ts tv tl r o cn = (⟨1, cn, 0, List.replicate tv.toNat 0, r.dn, [], 0, r.ma⟩, 0) := by
    unfold doG
    rw [if_pos h1]
    unfold createG
    rw [if_neg hr]
  unfold applyG
  rw [ha, hd]
  unfold pickG
  simp only
  have hn : ∀ (x : RegP) (p : RepP), (noteG x o p).ki = x.ki ∧ (noteG x o p).inc = x.inc ∧ (noteG x o p).va = x.va ∧ (noteG x o p).ou = x.ou ∧ (noteG x o p).la = x.la ∧ (noteG x o p).ma = x.ma := fun x p => by
    unfold noteG
    split
    · exact ⟨rfl, rfl, rfl, rfl, rfl, rfl⟩
    · split <;> exact ⟨rfl, rfl, rfl, rfl, rfl, rfl⟩
  obtain ⟨n1, n2, n3, n4, n5, n6⟩ := hn ⟨1, cn, 0, List.replicate tv.toNat 0, r.dn, [], 0, r.ma⟩ (replyG ⟨1, cn, 0, List.replicate tv.toNat 0, r.dn, [], 0, r.ma⟩ 0)
  exact ⟨n1, n2, n3, n4, n5, n6, rfl, rfl⟩
end Go.Proofs.YtpiikdinphnjbaaGreat

/-
  A message that was settled stays so, and is told so; cells' numbers only rise: plain mathematics.
-/
namespace Go.Proofs.YtpiikdinphnjbaaGreat
open Go.RowKit

theorem setdB_iff {so inc ce : Int} {l : List MrkM} : setdB so inc ce l = true ↔ ∃ m ∈ l, m.1 = so ∧ (inc < m.2.1 ∨ m.2.1 = inc ∧ ce ≤ m.2.2) := by
  unfold setdB
  rw [anyB_true]
  constructor
  · rintro ⟨j, hj, h⟩
    rw [setdK_at (List.getElem?_eq_getElem hj)] at h
    refine ⟨l[j], List.getElem_mem hj, ?_⟩
    simpa [setdX] using h
  · rintro ⟨m, hm, h⟩
    obtain ⟨j, hj, rfl⟩ := List.getElem_of_mem hm
    refine ⟨j, hj, ?_⟩
    rw [setdK_at (List.getElem?_eq_getElem hj)]
    simpa [setdX] using h
theorem putL_mem_iff {α : Type} {key : α → Int} {l : List α} {d x : α} : x ∈ putL key l d ↔ x = d ∨ x ∈ l ∧ key x ≠ key d := by
  unfold putL
  simp only [List.mem_append, List.mem_cons, List.mem_filter, decide_eq_true_eq]
  constructor
  · rintro (⟨h1, h2⟩ | h | ⟨h1, h2⟩)
    · exact .inr ⟨h1, by omega⟩
    · exact .inl h
    · exact .inr ⟨h1, by omega⟩
  · rintro (h | ⟨h1, h2⟩)
    · exact .inr (.inl h)
    · rcases (show key x < key d ∨ key d < key x by omega) with h3 | h3
      · exact .inl ⟨h1, h3⟩
      · exact .inr (.inr ⟨h1, h3⟩)
theorem setd_put {l : List MrkM} (so inc ce : Int) : setdB so inc ce (putL (·.1) l (so, inc, ce)) = true :=
  setdB_iff.2 ⟨(so, inc, ce), putL_mem_iff.2 (.inl rfl), rfl, .inr ⟨rfl, Int.le_refl _⟩⟩
theorem setd_keep {so inc ce so' inc' ce' : Int} {l : List MrkM} (h : setdB so inc ce l = true) (hn : setdB so' inc' ce' l ≠ true) : setdB so inc ce (putL (·.1) l (so', inc', ce')) = true := by
  obtain ⟨m, hm, h1, h2⟩ := setdB_iff.1 h
  by_cases hs : m.1 = so'
  · have h3 : ¬ (inc' < m.2.1 ∨ m.2.1 = inc' ∧ ce' ≤ m.2.2) := fun h3 => hn (setdB_iff.2 ⟨m, hm, hs, h3⟩)
    refine setdB_iff.2 ⟨(so', inc', ce'), putL_mem_iff.2 (.inl rfl), hs.symm.trans h1, ?_⟩
    simp only
    omega
  · exact setdB_iff.2 ⟨m, putL_mem_iff.2 (.inr ⟨hm, hs⟩), h1, h2⟩
/-- what becomes of the marks -/
theorem fire_ma {ts tv : Int} {tl : List RuM} {r : RegP} {ac pa ar : Int} : (fireG ts tv tl r ac pa ar).1.ma = r.ma := by
  unfold fireG
  split
  · split
    split
    · split <;> rfl
    · rfl
  · rfl
theorem do_ma {ts tv : Int} {tl : List RuM} {r : RegP} {o : OpM} {cn : Int} : (doG ts tv tl r o cn).1.ma = r.ma ∨ setdB o.so o.inc o.ce r.ma ≠ true ∧ (doG ts tv tl r o cn).1.ma = putL (·.1) r.ma (o.so, o.inc, o.ce) := by
  unfold doG
  split
  · left
    unfold createG
    split <;> rfl
  split
  · exact .inl fire_ma
  split
  · left
    unfold readG
    split <;> rfl
  split
  · left
    unfold removeG
    split
    · split <;> rfl
    · rfl
  split
  · unfold consumeG
    split
    · exact .inl rfl
    · rename_i hs
      split
      · right
        refine ⟨hs, ?_⟩
        rw [← fire_ma (ts := ts) (tv := tv) (tl := tl) (r := r) (ac := o.ac) (pa := 0) (ar := o.ar)]
      · exact .inl rfl
  split
  · left
    unfold clearG
    split <;> rfl
  · exact .inl rfl
theorem note_ma {r : RegP} {o : OpM} {p : RepP} : (noteG r o p).ma = r.ma := by
  unfold noteG
  split
  · rfl
  · split <;> rfl
/-- what was settled stays settled -/
theorem once_keep {ts tv : Int} {tl : List RuM} {r : RegP} {o : OpM} {cn so inc ce : Int} (h : setdB so inc ce r.ma = true) : setdB so inc ce (applyG ts tv tl r o cn).1.ma = true := by
  unfold applyG
  cases ha : againG r.dn o with
  | some p => exact h
  | none =>
    show setdB so inc ce (noteG _ _ _).ma = true
    rw [note_ma]
    rcases do_ma (ts := ts) (tv := tv) (tl := tl) (r := r) (o := o) (cn := cn) with h1 | ⟨h1, h2⟩
    · rw [h1]
      exact h
    · rw [h2]
      exact setd_keep h h1
theorem note_zero {r : RegP} {o : OpM} {p : RepP} (h : o.cl = 0) : noteG r o p = r := by unfold noteG; rw [if_pos h]
theorem do_consume7 {ts tv : Int} {tl : List RuM} {r : RegP} {o : OpM} {cn : Int} (h : o.ki = 5) : doG ts tv tl r o cn = consumeG ts tv tl r o := by
  unfold doG
  rw [if_neg (by omega), if_neg (by omega), if_neg (by omega), if_neg (by omega), if_pos h]
theorem mayO_consume {o : OpM} (h : mayO o = true) (h5 : o.ki = 5) : o.cl = 0 := by
  unfold mayO mayKindB at h
  rw [if_neg (by omega), if_neg (by omega), if_neg (by omega), if_neg (by omega), if_pos h5] at h
  simp only [Bool.and_eq_true, decide_eq_true_eq] at h
  exact h.2.2.2.2.2.2.1
/-- what is consumed is settled -/
theorem once_first {ts tv : Int} {tl : List RuM} {r : RegP} {o : OpM} {cn : Int} (h : rightB ts tv tl r o cn = true) (h5 : o.ki = 5) (h1 : r.ki = 1) : setdB o.so o.inc o.ce (applyG ts tv tl r o cn).1.ma = true := by
  obtain ⟨hm, hmo, -, -⟩ := rightB_lens h
  have h0 := mayO_consume hmo h5
  unfold applyG
  rw [again_zero hm h0]
  show setdB o.so o.inc o.ce (noteG _ _ _).ma = true
  rw [note_ma, do_consume7 h5]
  unfold consumeG
  split
  · assumption
  · show setdB o.so o.inc o.ce (putL (·.1) (fireG ts tv tl r o.ac 0 o.ar).1.ma (o.so, o.inc, o.ce)) = true
    exact setd_put _ _ _
/-- it is told so, and nothing is done -/
theorem once_again {ts tv : Int} {tl : List RuM} {r : RegP} {o : OpM} {cn : Int} (hm : mayG r = true) (h0 : o.cl = 0) (h5 : o.ki = 5) (h : setdB o.so o.inc o.ce r.ma = true) : applyG ts tv tl r o cn = (r, (14, 0, 0, [])) := by
  unfold applyG
  rw [again_zero hm h0, do_consume7 h5]
  unfold consumeG
  rw [if_pos h]
  show (noteG r o (replyG r 14), replyG r 14) = _
  rw [note_zero h0]
  rfl
end Go.Proofs.YtpiikdinphnjbaaGreat

/-
  Operations as a list; a register's rows where a block beside them is written.
-/
namespace Go.Proofs.YtpiikdinphnjbaaGreat
open Go.ChangeShapes Go.WideShapes Go.ChangeAt Go.RowKit Go.Joins Go.Deep

def opsOk (w : World) (B : Nat) (s : Sl OpM) : Prop := Sl.ok OpM.cs (fun _ _ o => OpM.ok o) w B s
theorem ops_stable : Stable opsOk := Sl.stable fun _ _ _ _ _ h _ _ => h
section
variable {H : Type} {enc : TypeId × Value → H} {w : World} {base : Nat} {spare : Nat → Bool} {held : Bool}
set_option maxRecDepth 100000 in
theorem open_ops {r : Reach} {b0 : Nat} {v : Value} {d : DataW H} {p : List MemPlace} (hv : Value.okWide Tryz.prog w r b0 47 v) (h : DataW.Trod enc Tryz.prog w base spare held 47 v d p) :
    ∃ s : Sl OpM, v = s.v ∧ opsOk w w.heap.size s := by
  obtain ⟨A, n, c, rfl⟩ := okWide_slice Tryz.underlying47 hv
  obtain ⟨fuel, hf⟩ := h
  obtain ⟨s, hv, h1, h2, h3, h4⟩ := open_sl OpM.cs OpM.ok (q := 10) (by omega) Tryz.underlying47 (by kernel_rfl) (fun _ => rfl) (fun _ _ _ hl h => el_op hl h) (by simpa [Value.cells] using hf)
  exact ⟨s, hv, h1, h2, h3, h4⟩
end
theorem Sees.op7 {w : World} {B : Nat} {A : Option Addr} {l : List OpM} {k : Nat} {x : OpM} (h : Sees w B A (l.flatMap OpM.cs)) (hk : l[k]? = some x) :
    ∃ b o, A = some ⟨b, o, none⟩ ∧ b < B ∧ w.cell? ⟨b, o + k * 10, none⟩ = some (.int .u8 x.ki) ∧ w.cell? ⟨b, o + k * 10 + 1, none⟩ = some (.int .u8 x.ke) ∧ w.cell? ⟨b, o + k * 10 + 2, none⟩ = some (.int .u8 x.cl) ∧ w.cell? ⟨b, o + k * 10 + 3, none⟩ = some (.int .u64 x.sq) ∧
      w.cell? ⟨b, o + k * 10 + 4, none⟩ = some (.int .i64 x.ac) ∧ w.cell? ⟨b, o + k * 10 + 5, none⟩ = some (.int .i64 x.pa) ∧ w.cell? ⟨b, o + k * 10 + 6, none⟩ = some (.int .i64 x.ar) ∧ w.cell? ⟨b, o + k * 10 + 7, none⟩ = some (.int .u8 x.so) ∧ w.cell? ⟨b, o + k * 10 + 8, none⟩ = some (.int .u64 x.inc) ∧ w.cell? ⟨b, o + k * 10 + 9, none⟩ = some (.int .u64 x.ce) := by
  obtain ⟨b, o, e, hb, hc⟩ := h.at (q := 10) (fun _ => rfl) (by omega) hk
  exact ⟨b, o, e, hb, hc 0 _ rfl, hc 1 _ rfl, hc 2 _ rfl, hc 3 _ rfl, hc 4 _ rfl, hc 5 _ rfl, hc 6 _ rfl, hc 7 _ rfl, hc 8 _ rfl, hc 9 _ rfl⟩

/-- a row of one's own, where another block was written -/
theorem own_other7 {w w' : World} {g base s n : Nat} {e : TypeId} {v : Value} {xs : List Value} (h : w.ownsRow base e s v n xs) (hne : some g ≠ v.ownBlock) (hg : w.grownBy w' (some g)) : w'.ownsRow base e s v n xs := by
  refine ⟨h.1, ?_⟩
  rcases h.2 with h0 | ⟨g', cap, cur, rfl, h1, hg', h2⟩
  · exact .inl h0
  · exact .inr ⟨g', cap, cur, rfl, h1, (hg.block g' (Array.getElem?_eq_some_iff.1 hg').1 fun e => hne (by rw [← e]; rfl)).trans hg', h2⟩
/-- a box is no row of another kind -/
theorem box_apart7 {w : World} {g base s n : Nat} {cs : Array Value} {t e : TypeId} {v : Value} {xs : List Value} (h : BoxAt w g cs t) (ht : t ≠ e) (hown : w.ownsRow base e s v n xs) : some g ≠ v.ownBlock := by
  intro he
  rcases hown.2 with ⟨rfl, _⟩ | ⟨g', cap, cur, rfl, _, hg', _⟩
  · cases he
  · injection he with he
    subst he
    unfold BoxAt at h
    have h2 := h.symm.trans hg'
    injection h2 with h2
    injection h2 with _ h2
    exact ht h2
theorem Fresh.other7 {w w' : World} {lo g : Nat} {x : RegM} (h : Fresh w lo x) (hg : w.grownBy w' (some g)) (hv : some g ≠ (Value.slice x.va.A x.va.l.length x.va.c).ownBlock) (hd : some g ≠ (Value.slice x.dn.A x.dn.l.length x.dn.c).ownBlock)
    (hdi : ∀ d ∈ x.dn.l, some g ≠ (Value.slice d.va.A d.va.l.length d.va.c).ownBlock) (ho : some g ≠ (Value.slice x.ou.A x.ou.l.length x.ou.c).ownBlock) (hm : some g ≠ (Value.slice x.ma.A x.ma.l.length x.ma.c).ownBlock) : Fresh w' lo x :=
  ⟨h.num, ⟨own_other7 h.va.1 hv hg, h.va.2⟩, own_other7 h.dn hd hg, fun d hq => ⟨(h.di d hq).1, own_other7 (h.di d hq).2.1 (hdi d hq) hg, (h.di d hq).2.2⟩, own_other7 h.ou ho hg, h.oi, own_other7 h.ma hm hg, h.mi⟩
/-- a box of another kind is written -/
theorem Fresh.boxed7 {w w' : World} {lo g : Nat} {x : RegM} {cs : Array Value} {t : TypeId} (h : Fresh w lo x) (hb : BoxAt w g cs t) (h1 : t ≠ 2) (h2 : t ≠ 63) (h3 : t ≠ 51) (h4 : t ≠ 65) (hg : w.grownBy w' (some g)) : Fresh w' lo x :=
  h.other7 hg (box_apart7 hb h1 h.va.1) (box_apart7 hb h2 h.dn) (fun d hd => box_apart7 hb h1 (h.di d hd).2.1) (box_apart7 hb h3 h.ou) (box_apart7 hb h4 h.ma)

/-- it may be, wherever the block z alone is written -/
def Aside7 (w : World) (z : Nat) (x : RegM) : Prop := ∀ u, w.grownBy u (some z) → RegM.ok u u.heap.size x
theorem Aside7.low {w : World} {B z : Nat} {x : RegM} (h : RegM.ok w B x) (hz : B ≤ z) (hB : B ≤ w.heap.size) : Aside7 w z x := fun u hu =>
  reg_stable w u B u.heap.size x h (fun q hq => World.cell?_of_block (hu.block q.block (by omega) (fun e => by injection e; omega))) (Nat.le_trans hB hu.size)
theorem Aside7.fresh {w : World} {lo z : Nat} {x : RegM} (h : Fresh w lo x) (hz : z < lo) : Aside7 w z x := fun u hu => by
  have far : ∀ {e : TypeId} {s n : Nat} {v : Value} {xs : List Value}, w.ownsRow lo e s v n xs → some z ≠ v.ownBlock := fun ho e => own_far ho hz e.symm
  exact (h.other7 hu (far h.va.1) (far h.dn) (fun d hd => far (h.di d hd).2.1) (far h.ou) (far h.ma)).ok
theorem Aside7.step {w w' : World} {z : Nat} {x : RegM} (h : Aside7 w z x) (hb : Below w.heap.size w w') : Aside7 w' z x := fun u hu => h u (grown_join (grown_below (World.grownBy.refl w _) hb) hu)
theorem Aside7.ok {w : World} {z : Nat} {x : RegM} (h : Aside7 w z x) : RegM.ok w w.heap.size x := h w (World.grownBy.refl w _)
theorem Aside7.set {w : World} {z i : Nat} {v : Value} {x : RegM} (h : Aside7 w z x) : Aside7 (w.setCell ⟨z, i, none⟩ v) z x := fun u hu => h u (grown_join (grown_set (World.grownBy.refl w _) i v) hu)
end Go.Proofs.YtpiikdinphnjbaaGreat
