/-
  Texts of this claim put together: Jn5.
-/
import Derived.Test.YtecbpmnolgkllaaJ37
import Derived.Deep.RegionLaw
/-
  A calm disk's Write: what is written waits, and the disk's map stays where it was.
-/
namespace Go.Proofs.Ytecbpmnolgkllaa
open Go.RowKit

/-- a disk behind a call that changed it, but not where its map lies -/
def DoesM (L : Lay) (w w' : World) (D' : Dk) : Prop := ∃ L', L'.b = L.b ∧ L'.m = L.m ∧ DiskAt w' L' D' ∧ Chg L.has w w' ∧ ∀ g, L'.has g → L.has g ∨ w.heap.size ≤ g
section
variable {w : World} {L : Lay} {D : Dk}
theorem DiskAt.append13 {w1 w2 w3 : World} (h : DiskAt w L D) {i g cp : Nat} {l : List UInt8} {A' : Option Addr} {c' : Nat} (hi : i < D.c) (hl : l.length = D.n) (hcp : l.length ≤ cp) (hn : D.waits.length + 1 ≤ 100000)
    (hg : w.heap.size ≤ g) (hb : Below w.heap.size w w1) (hr : RowIs w1 g l) (hrow : w2.ownsRow 0 182 2 (.slice A' (D.waits.length + 1) c') (D.waits.length + 1) (wcs L.G D.waits ++ [.int .i64 (i : Int), .slice (some ⟨g, 0, none⟩) l.length cp]))
    (hg2 : w1.grownBy w2 (Value.slice L.A D.waits.length L.cp).ownBlock) (hloc : (Value.slice A' (D.waits.length + 1) c').ownBlock = (Value.slice L.A D.waits.length L.cp).ownBlock ∨ ∃ b, w1.heap.size ≤ b ∧ (Value.slice A' (D.waits.length + 1) c').ownBlock = some b)
    (h3 : w3 = w2.setCell ⟨L.b, 3, none⟩ (.slice A' (D.waits.length + 1) c')) : DoesM L w w3 { D with waits := D.waits ++ [(i, l)] } := by
  have hbox := h.box
  unfold BoxAt at hbox
  have h1 : DiskAt w1 L D := h.below hb
  have hbx1 : w1.heap[L.b]? = some (.cells (dcs L D) 73 (0, 0)) := (hb.block _ h.box.lt).trans hbox
  have hA : ∀ g, (Value.slice L.A D.waits.length L.cp).ownBlock = some g → ∃ o s, L.A = some ⟨g, o, s⟩ := by
    intro g' e
    cases hLA : L.A with
    | none => rw [hLA] at e; cases e
    | some ad =>
      rw [hLA] at e
      injection e with e
      obtain ⟨b, o, s⟩ := ad
      simp only at e
      subst e
      exact ⟨o, s, rfl⟩
  have hrw : ∀ g', (Value.slice L.A D.waits.length L.cp).ownBlock = some g' → ∃ cur, w1.heap[g']? = some (.cells cur 182 (0, 0)) := fun g' e => by
    obtain ⟨o, s, e⟩ := hA g' e
    exact h1.kA e
  have hlen : (dcs L D).size = 8 := rfl
  have hsz2 := hg2.size
  have hb2 : w2.heap[L.b]? = some (.cells (dcs L D) 73 (0, 0)) := (hg2.block _ (by have := h.box.lt; have := hb.size; omega) (fun e => by
    obtain ⟨cur, hx⟩ := hrw _ e.symm
    exact two_kinds hbx1 hx (by decide) rfl)).trans hbx1
  have hother : ∀ k ob, w1.heap[k]? = some ob → k ≠ L.b → (∀ cur, ob ≠ .cells cur 182 (0, 0)) → w3.heap[k]? = some ob := by
    intro k ob hk hne hnw
    rw [h3, Below.heap_setCell _ _ _ _ hne]
    refine (hg2.block k (Array.getElem?_eq_some_iff.1 hk).1 (fun e => ?_)).trans hk
    obtain ⟨cur, hx⟩ := hrw _ e.symm
    rw [hk] at hx
    injection hx with hx
    exact hnw _ hx
  have h8 : ∀ (k : Nat) (cur : Array Value), w1.heap[k]? = some (.cells cur 5 (0, 0)) → w3.heap[k]? = w1.heap[k]? := fun k cur hk => by
    rw [hother k _ hk (fun e => two_kinds hk hbx1 (by decide) e) (fun c e => by injection e with _ e; exact absurd e (by decide)), hk]
  have hm3 : w3.heap[L.m]? = w1.heap[L.m]? := by
    obtain ⟨es, k, em⟩ := h1.map.is
    rw [hother L.m _ em (fun e => map_kind hbx1 em e.symm) (fun c e => by cases e), em]
  have hKG : ∀ j g', L.K j = some g' → g' ≠ g := fun j g' e => by
    have := (h.keep j g' e).2.lt
    omega
  have hlt1 : ∀ k, L.has k → k < w1.heap.size := fun k hk => h1.lt hk
  have hA3 : ∀ k o s, A' = some ⟨k, o, s⟩ → k = L.b → False := by
    intro k o s e ek
    subst ek
    rcases hrow.2 with ⟨_, h0⟩ | ⟨g', cap, cur, hv, _, hx, _⟩
    · omega
    · injection hv with hv
      rw [e] at hv
      injection hv with hv
      injection hv with hv
      subst hv
      exact two_kinds hb2 hx (by decide) rfl
  refine ⟨{ L with A := A', cp := c', G := L.G ++ [(g, cp)] }, rfl, rfl, ?_, ?_, ?_⟩
  · exact {
      box := by
        rw [h3]
        have := heap_set 3 (.slice A' (D.waits.length + 1) c') hb2
        show _ = _
        rw [this]
        congr 2
        simp [dcs]
      map := h1.map.stay hm3
      row := by
        rw [wcs_snoc _ _ _ _ h.len, List.length_append, List.length_cons, List.length_nil]
        refine ownsRow_stay hrow fun k o s e => ?_
        rw [h3]
        exact Below.heap_setCell _ _ _ _ (fun ek => hA3 k o s e ek)
      len := by simp [h.len]
      keep := fun j g' e => by
        obtain ⟨cur, hx⟩ := h1.kK e
        exact ⟨(h.keep j g' e).1, ((h1.keep j g' e).2).stay12 (h8 g' cur hx)⟩
      zero := h.zero
      inj := h.inj
      wt := fun j p q e1 e2 => by
        simp only at e1 e2
        by_cases hj : j < D.waits.length
        · rw [List.getElem?_append_left (by rw [h.len]; exact hj)] at e1
          rw [List.getElem?_append_left hj] at e2
          obtain ⟨cur, hx⟩ := h1.kG (List.mem_of_getElem? e1)
          exact ⟨(h1.wt j p q e1 e2).1.stay12 (h8 _ cur hx), (h1.wt j p q e1 e2).2⟩
        · rw [List.getElem?_append_right (by omega)] at e2
          rw [List.getElem?_append_right (by rw [h.len]; omega), h.len] at e1
          have hj0 : j - D.waits.length = 0 := by
            rcases Nat.eq_zero_or_pos (j - D.waits.length) with h0 | h0
            · exact h0
            · rw [List.getElem?_eq_none (by simp; omega)] at e2
              cases e2
          rw [hj0] at e1 e2
          simp at e1 e2
          subst e1 e2
          obtain ⟨cur, hx, hc⟩ := hr
          exact ⟨RowIs.stay12 ⟨cur, hx, hc⟩ (h8 g cur hx), hcp, fun j' e => hKG j' _ e rfl⟩
      ok := ⟨h.ok.n1, h.ok.n2, h.ok.c1, h.ok.c2, h.ok.k, fun q hq => by
        rcases List.mem_append.1 hq with hq | hq
        · exact h.ok.ws q hq
        · simp at hq
          subst hq
          exact ⟨hi, hl⟩, by simp; omega, h.ok.l1, h.ok.l2⟩ }
  · have c1 : Chg L.has w w1 := Chg.of_below hb
    have c2 : Chg L.has w1 w2 := ⟨hg2.os, hg2.tape, hg2.output, hg2.size, fun k hk hn => hg2.block k hk fun e => hn (by
      obtain ⟨o, s, e⟩ := hA k e.symm
      exact .inr (.inr (.inl ⟨o, s, e⟩)))⟩
    have c3 : Chg L.has w2 w3 := by
      rw [h3]
      exact Chg.of_grown (grown_cell9 w2 L.b 3 _) (.inl (.inl rfl))
    exact (c1.trans c2 fun _ hg _ => hg).trans c3 fun _ hg _ => hg
  · intro k hk
    have hs1 := hb.size
    rcases hk with rfl | rfl | ⟨o, s, e⟩ | ⟨j, e⟩ | ⟨p, hp, rfl⟩
    · exact .inl (.inl rfl)
    · exact .inl (.inr (.inl rfl))
    · simp only at e
      rcases hloc with hq | ⟨b, hb', hq⟩
      · rw [e] at hq
        obtain ⟨o', s', e'⟩ := hA k hq.symm
        exact .inl (.inr (.inr (.inl ⟨o', s', e'⟩)))
      · rw [e] at hq
        injection hq with hq
        simp only at hq
        exact .inr (by omega)
    · exact .inl (.inr (.inr (.inr (.inl ⟨j, e⟩))))
    · rcases List.mem_append.1 hp with hp | hp
      · exact .inl (.inr (.inr (.inr (.inr ⟨p, hp, rfl⟩))))
      · simp at hp
        subst hp
        exact .inr hg

theorem burn_none (h : DiskAt w L D) (hc : D.calm) : Calls Try.prog 139 #[.pointer (some ⟨L.b, 0, none⟩)] w fun e w' => e = .returned (.int .i64 0) ∧ w = w' := by
  have c6 : w.cell? ⟨L.b, 6, none⟩ = some (.bool false) := by rw [h.c6, hc.2]
  clear h hc
  go_enter Try.func139, Try.ntmps139
  go_wp2
  go_ret
  exact ⟨rfl, rfl⟩
theorem DoesM.calls {w1 : World} {D' : Dk} (h : DoesM L w w1 D') (hc : D'.calm) : Calls Try.prog 139 #[.pointer (some ⟨L.b, 0, none⟩)] w1 fun e w' => e = .returned (.int .i64 0) ∧ w1 = w' := by
  obtain ⟨L', eb, _, hd, _⟩ := h
  have := burn_none hd hc
  rwa [eb] at this

set_option maxRecDepth 100000 in
theorem Write_calm (h : DiskAt w L D) (hc : D.calm) (k : Nat) (hk : k < D.c) (l : List UInt8) (B : Nat) (A : Option Addr) (m c : Nat) (hs : Sees w B A (bv l)) (hm : l.length = m) (hl : l.length = D.n) (hB : B ≤ w.heap.size) (hn : D.waits.length + 1 ≤ 100000) :
    Calls Try.prog 115 #[.pointer (some ⟨L.b, 0, none⟩), .int .i64 (k : Int), .slice A m c] w fun e w' => e = .returned (.int .i64 0) ∧ DoesM L w w' { D with waits := D.waits ++ [(k, l)] } := by
  have H := hide_ h
  have c0 := h.c0
  have c3 := h.c3
  have HCA := hide_ hc
  have HR := hide_ (show Calls Try.prog 110 #[.pointer (some ⟨L.b, 0, none⟩), .int .i64 (k : Int)] w fun e w' => e = .returned (.int .i64 0) ∧ w = w' from by
    have := reaches_any h (k : Int)
    rwa [read_on hc.1 (by omega) (by omega)] at this)
  have HK := hide_ hk
  have HL := hide_ hl
  have hmn : m = D.n := by omega
  subst hmn
  have n1 := h.ok.n1
  have n2 := h.ok.n2
  have f3 := h.free 3
  have HC := hide_ (bclone_any l B A D.n c w.drew hs hl (by omega) hB (by omega))
  have HN := hide_ hn
  have hwn : D.waits.length + 1 ≤ 1000000 := by omega
  clear h hc hk hl hs hm hn
  go_enter Try.func115, Try.ntmps115
  go_wp2_with (go_at_call 110; refine HR.out.mono ?_; rintro e w1 ⟨rfl, rfl⟩)
  go_region_law (first | (go_simp; go_at_call 138; refine HC.out.mono ?_; rintro en w1 ⟨g, cp, rfl, hg, hr1, hcp, hb0⟩; (have hb1 := Below.of_drew hb0); (have HC3 : w1.cell? ⟨L.b, 3, none⟩ = some (.slice L.A D.waits.length L.cp) := (hb1.cell (p := ⟨L.b, 3, none⟩) H.out.box.lt).trans c3); (have HC4 : (w1.alloc (.cells #[.int .i64 (k : Int), .slice (some ⟨g, 0, none⟩) D.n cp] 182)).cell? ⟨L.b, 3, none⟩ = some (.slice L.A D.waits.length L.cp) := (World.cell?_of_block (Below.heap_alloc w1 _ _ (Nat.lt_of_lt_of_le H.out.box.lt hb1.size))).trans HC3); (have HF3 : w1.frozen? ⟨L.b, 3, none⟩ = false := (hb1.frozen (p := ⟨L.b, 3, none⟩) H.out.box.lt).trans f3); (obtain ⟨A', c', w2, hap, hown2, hg2, hloc2, hC, hF⟩ := wrote_append H.out (by omega) hb1 k D.n g cp); (have HG := hide_ hg); (have HR1 := hide_ hr1); (have HCP := hide_ hcp); (have HB1 := hide_ hb1); (have HO2 := hide_ hown2); (have HG2 := hide_ hg2); (have HL2 := hide_ hloc2); clear hg hr1 hcp hb0 hb1 hown2 hg2 hloc2) | (refine step_append_known (by rfl) _ _ 71 rfl _ _ (by rfl) (by rfl) hap ?_))
  all_goals
    have HD := hide_ (H.out.append13 HK.out HL.out (by rw [HL.out]; exact HCP.out) HN.out HG.out HB1.out HR1.out (by rw [HL.out]; exact HO2.out) HG2.out HL2.out rfl)
    clear HC hap HO2 HG2 HL2 HC3 HC4 HF3 HR hC hF
    go_wp2_with (refine (HD.out.calls (show ({ D with waits := D.waits ++ [(k, l)] } : Dk).calm from HCA.out)).mono ?_; rintro en w4 ⟨rfl, rfl⟩)
    go_ret
    exact ⟨rfl, HD.out⟩
end
theorem waitD_next (D : Dk) (a : Nat) (F : List UInt8) (k : Nat) : { waitD D a F k with waits := (waitD D a F k).waits ++ [(a + k, chunkB F D.n k)] } = waitD D a F (k + 1) := by
  unfold waitD
  simp [List.range_succ]
end Go.Proofs.Ytecbpmnolgkllaa
