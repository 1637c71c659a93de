/-
  What the laws of layer 5 have in common: messages in memory; what is known of what an action does.
-/
import Derived.Test.YtkjgplcfoihohaaFire2
import Derived.Test.YtkjgplcfoihohaaGreat
namespace Go.Proofs.Ytkjgplcfoihohaa
open Go.RowKit

theorem Sees.ownRow {w : World} {base n c size : Nat} {e : TypeId} {A : Option Addr} {xs : List Value} (h : w.ownsRow base e size (.slice A n c) n xs) : Sees w w.heap.size A xs := fun hn => by
  rcases h.2 with ⟨hv, rfl⟩ | ⟨g, cap, cur, hv, _, hg, _, _, hsz, hx⟩
  · have := h.1
    rw [Nat.zero_mul] at this
    omega
  · injection hv with hA
    subst hA
    have hlt : g < w.heap.size := (Array.getElem?_eq_some_iff.1 hg).1
    refine ⟨_, rfl, hlt, fun j u hu => ?_⟩
    rw [Addr.add_lit, cell_of_row w g _ _ _ _ hg, Nat.zero_add, ← Array.getElem?_toList]
    rw [← hx, List.getElem?_take] at hu
    split at hu
    · exact hu
    · cases hu
theorem Sees.msg {w : World} {B : Nat} {A : Option Addr} {l : List (Int × Int × Int)} {k : Nat} {x : Int × Int × Int} (h : Sees w B A (cv l)) (hk : l[k]? = some x) :
    ∃ b o, A = some ⟨b, o, none⟩ ∧ b < B ∧ w.cell? ⟨b, o + k * 4, none⟩ = some (.int .u64 0) ∧ w.cell? ⟨b, o + k * 4 + 1, none⟩ = some (.int .u8 x.1) ∧ w.cell? ⟨b, o + k * 4 + 2, none⟩ = some (.int .i64 x.2.1) ∧ w.cell? ⟨b, o + k * 4 + 3, none⟩ = some (.int .i64 x.2.2) := by
  obtain ⟨b, o, e, hb, hc⟩ := Sees.at (cs := cellC) (q := 4) (fun _ => rfl) (by omega) h hk
  exact ⟨b, o, e, hb, hc 0 _ rfl, hc 1 _ rfl, hc 2 _ rfl, hc 3 _ rfl⟩

theorem emRun_all {Q : Int × Int × Int → Prop} {l : List EmM} {vars : List Int} {arg : Int} (hq : ∀ (k : Nat) (e : EmM) (x : Int), l[k]? = some e → Q (e.tg, e.ac, x)) : ∀ {j : Nat} {cur : List (Int × Int × Int)}, emRun l vars arg j = some cur → ∀ c ∈ cur, Q c := by
  intro j
  induction j with
  | zero => intro cur h; injection h with h; subst h; simp
  | succ j ih =>
    intro cur h
    change (emRun l vars arg j).bind _ = some cur at h
    cases hp : emRun l vars arg j with
    | none => rw [hp] at h; cases h
    | some c =>
      rw [hp] at h
      simp only [Option.bind_some] at h
      cases hl : l[j]? with
      | none => rw [hl] at h; cases h
      | some s =>
        rw [hl] at h
        simp only at h
        split at h
        · injection h with h
          subst h
          intro y hy
          rcases List.mem_append.1 hy with hy | hy
          · exact ih hp y hy
          · simp at hy
            subst hy
            exact hq j s _ hl
        · cases h

/-- what an action leaves -/
theorem fire_stays (st vs : Int) (l : List RuM) (sa ac pa : Int) (vars : List Int) (arg : Int) :
    (∃ e, e ≠ 0 ∧ fireR st vs l sa ac pa vars arg = (0, [], [], e)) ∨
    (∃ s v c, fireR st vs l sa ac pa vars arg = (s, v, c, 0) ∧ (0 ≤ s ∧ s < st) ∧ ((v.length : Int) = vs ∧ v.length = vars.length) ∧ c.length ≤ 4 ∧ ∀ x ∈ c, x.1 ≤ 15 ∧ 0 ≤ x.2.1 ∧ x.2.1 ≤ 31) := by
  unfold fireR
  by_cases h : fireB st vs l vars = true
  · rw [if_pos h]
    unfold fireB at h
    simp only [Bool.and_eq_true, decide_eq_true_eq] at h
    cases hi : idxO (takX sa ac pa vars arg l) l.length with
    | none => exact .inl ⟨13, by omega, rfl⟩
    | some k =>
      simp only
      cases hk : l[k]? with
      | none => exact .inl ⟨13, by omega, rfl⟩
      | some r =>
        simp only
        obtain ⟨-, hto, -, -, -, hs, he⟩ := ruB_parts (mayT_rule h.2 hk)
        cases ha : setAllR r.se.l vars arg with
        | none => exact .inl ⟨18, by omega, rfl⟩
        | some a =>
          cases hc : emAllR r.em.l vars arg with
          | none => exact .inl ⟨18, by omega, rfl⟩
          | some c =>
            have h1 := setRun_len ha
            have h2 := emRun_len hc
            have h3 := emsB_len he
            refine .inr ⟨r.tt, a, c, rfl, ⟨hto.1, by omega⟩, ⟨by rw [h1]; exact h.1, h1⟩, by omega, fun x hx => ?_⟩
            have := emRun_all (Q := fun c => c.1 ≤ 15 ∧ 0 ≤ c.2.1 ∧ c.2.1 ≤ 31) (fun k e x hk => by
              have := emsB_at he hk
              exact ⟨by simp only; omega, this.2.1.1, this.2.1.2⟩) hc x hx
            exact this
  · rw [if_neg h]
    exact .inl ⟨10, by omega, rfl⟩
end Go.Proofs.Ytkjgplcfoihohaa
