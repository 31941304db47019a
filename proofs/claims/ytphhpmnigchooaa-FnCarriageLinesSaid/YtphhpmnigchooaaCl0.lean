/- A line that is told, as plain data: each letter at its place, no two at one place. -/
import Derived.Test.YtphhpmnigchooaaLine0
import Derived.Test.YtphhpmnigchooaaOver0
namespace Go.Proofs.Ytphhpmnigchooaa
open Go.RowKit
set_option linter.unusedVariables false
set_option linter.unusedSimpArgs false

def okAt (c : CarriageD) (s : StruckD) : Prop := ¬ (s.place < c.left ∨ oddAt c s = true)
theorem same_place {c : CarriageD} {s t : StruckD} (hs : okAt c s) (ht : okAt c t) (h : idxOf c s = idxOf c t) : s.place = t.place := by
  have h1 := (even_idx hs).1
  have h2 := (even_idx ht).1
  unfold okAt oddAt at hs ht
  have q1 : (s.place - c.left).tmod 2 = 0 := by
    rcases Decidable.em ((s.place - c.left).tmod 2 = 0) with q | q
    · exact q
    · exact absurd (.inr (by simpa using q)) hs
  have q2 : (t.place - c.left).tmod 2 = 0 := by
    rcases Decidable.em ((t.place - c.left).tmod 2 = 0) with q | q
    · exact q
    · exact absurd (.inr (by simpa using q)) ht
  have e1 := Int.mul_tdiv_add_tmod (s.place - c.left) 2
  have e2 := Int.mul_tdiv_add_tmod (t.place - c.left) 2
  rw [h1, q1] at e1
  rw [h2, q2] at e2
  omega
theorem pad_at {acc : List UInt8} {n i : Nat} {b : UInt8} (h : (pad acc n)[i]? = some b) (hb : ¬ b = 32) : acc[i]? = some b := by
  unfold pad at h
  rcases Nat.lt_or_ge i acc.length with hi | hi
  · rwa [List.getElem?_append_left hi] at h
  · rw [List.getElem?_append_right hi] at h
    obtain ⟨_, e⟩ := List.getElem?_eq_some_iff.1 h
    rw [List.getElem_replicate] at e
    exact absurd e.symm hb
theorem pad_keep {acc : List UInt8} {n i : Nat} {b : UInt8} (h : acc[i]? = some b) : (pad acc n)[i]? = some b := by
  unfold pad
  rw [List.getElem?_append_left (List.getElem?_eq_some_iff.1 h).1]
  exact h
def noBl (l : List UInt8) : Nat := l.countP (fun b => b != 32)
theorem noBl_pad (acc : List UInt8) (n : Nat) : noBl (pad acc n) = noBl acc := by
  unfold noBl pad
  rw [List.countP_append, List.countP_replicate]
  simp
theorem noBl_set {l : List UInt8} {i : Nat} {b : UInt8} (h : l[i]? = some 32) (hb : ¬ b = 32) : noBl (l.set i b) = noBl l + 1 := by
  obtain ⟨hi, he⟩ := List.getElem?_eq_some_iff.1 h
  unfold noBl
  rw [List.countP_set hi, he]
  simp [hb]
/-- A line that can be told. -/
theorem go_ok {c : CarriageD} : ∀ {l : List StruckD} {acc res : List UInt8}, (∀ s ∈ l, ¬ byte0 s.letter = 32) → lineGo c acc l = (res, 0) →
    noBl res = noBl acc + l.length ∧ (∀ s ∈ l, okAt c s ∧ res[idxOf c s]? = some (byte0 s.letter) ∧ ¬ (∃ b, acc[idxOf c s]? = some b ∧ ¬ b = 32)) ∧ l.Pairwise (fun s t => s.place ≠ t.place) ∧ ∀ (i : Nat) (b : UInt8), acc[i]? = some b → ¬ b = 32 → res[i]? = some b
  | [], acc, res, hl, h => by
    rw [lineGo] at h
    cases h
    exact ⟨rfl, fun s hs => (by cases hs), List.Pairwise.nil, fun i b h _ => h⟩
  | s :: l, acc, res, hl, h => by
    rw [lineGo] at h
    split at h
    · cases h
    · rename_i hok
      split at h
      · cases h
      · rename_i hcl
        have hcl' : (pad acc (idxOf c s + 1))[idxOf c s]? = some 32 := by simpa using hcl
        have hs0 := hl s (List.mem_cons_self ..)
        obtain ⟨g1, g2, g3, g4⟩ := go_ok (fun t ht => hl t (List.mem_cons_of_mem _ ht)) h
        have hlen : idxOf c s < (pad acc (idxOf c s + 1)).length := (List.getElem?_eq_some_iff.1 hcl').1
        have hat : ((pad acc (idxOf c s + 1)).set (idxOf c s) (byte0 s.letter))[idxOf c s]? = some (byte0 s.letter) := by simp [hlen]
        have hkeep : ∀ (i : Nat) (b : UInt8), acc[i]? = some b → ¬ b = 32 → ((pad acc (idxOf c s + 1)).set (idxOf c s) (byte0 s.letter))[i]? = some b := fun i b hb hne => by
          have hp := pad_keep (n := idxOf c s + 1) hb
          have hii : idxOf c s ≠ i := fun e => by subst e; rw [hp] at hcl'; cases hcl'; exact hne rfl
          rw [List.getElem?_set_ne hii]
          exact hp
        refine ⟨by rw [g1, noBl_set hcl' hs0, noBl_pad, List.length_cons]; omega, fun t ht => ?_, ?_, fun i b hb hne => g4 i b (hkeep i b hb hne) hne⟩
        · rcases List.mem_cons.1 ht with rfl | ht
          · refine ⟨hok, g4 _ _ hat hs0, fun ⟨b, hb, hne⟩ => ?_⟩
            rw [pad_keep hb] at hcl'
            cases hcl'
            exact hne rfl
          · obtain ⟨k1, k2, k3⟩ := g2 t ht
            exact ⟨k1, k2, fun ⟨b, hb, hne⟩ => k3 ⟨b, hkeep _ b hb hne, hne⟩⟩
        · refine List.Pairwise.cons (fun t ht e => ?_) g3
          obtain ⟨k1, k2, k3⟩ := g2 t ht
          have hi : idxOf c t = idxOf c s := by unfold idxOf; rw [e]
          exact k3 ⟨byte0 s.letter, by rw [hi]; exact hat, hs0⟩
/-- Letters that clash stand at one place. -/
theorem go_clash {c : CarriageD} : ∀ {l : List StruckD} {acc res : List UInt8}, lineGo c acc l = (res, 9) → (∃ s ∈ l, okAt c s ∧ ∃ b, acc[idxOf c s]? = some b ∧ ¬ b = 32) ∨ ¬ l.Pairwise (fun s t => s.place ≠ t.place)
  | [], acc, res, h => by rw [lineGo] at h; cases h
  | s :: l, acc, res, h => by
    rw [lineGo] at h
    split at h
    · cases h
    · rename_i hok
      split at h
      · rename_i hcl
        left
        refine ⟨s, List.mem_cons_self .., hok, ?_⟩
        have hlen : idxOf c s < (pad acc (idxOf c s + 1)).length := by rw [pad_length]; omega
        have hg := List.getElem?_eq_getElem hlen
        have hne : ¬ (pad acc (idxOf c s + 1))[idxOf c s] = 32 := fun e => hcl (by rw [hg, e])
        exact ⟨_, pad_at hg hne, hne⟩
      · rename_i hcl
        have hcl' : (pad acc (idxOf c s + 1))[idxOf c s]? = some 32 := by simpa using hcl
        rcases go_clash h with ⟨t, ht, htk, b, hb, hne⟩ | hp
        · by_cases hi : idxOf c s = idxOf c t
          · right
            intro hpw
            rw [List.pairwise_cons] at hpw
            exact hpw.1 t ht (same_place hok htk hi)
          · left
            rw [List.getElem?_set_ne hi] at hb
            exact ⟨t, List.mem_cons_of_mem _ ht, htk, b, pad_at hb hne, hne⟩
        · right
          intro hpw
          rw [List.pairwise_cons] at hpw
          exact hp hpw.2
theorem go_code {c : CarriageD} : ∀ {l : List StruckD} {acc : List UInt8}, (lineGo c acc l).2 = 0 ∨ (lineGo c acc l).2 = 8 ∨ (lineGo c acc l).2 = 9
  | [], acc => .inl rfl
  | s :: l, acc => by
    rw [lineGo]
    split
    · exact .inr (.inl rfl)
    · split
      · exact .inr (.inr rfl)
      · exact go_code
theorem let_byte {x : StruckD} (h : struckOk x = true) : ¬ byte0 x.letter = 32 ∧ 0 < x.letter.size := by
  unfold struckOk at h
  rw [Bool.and_eq_true] at h
  have h1 := isLet_size1 h.2
  have h2 := isLet_one h1
  rw [h.2] at h2
  refine ⟨fun e => ?_, by omega⟩
  unfold byte0 at e
  rw [dif_pos (by omega)] at e
  rw [e] at h2
  exact absurd h2 (by decide)
theorem pair_cnt {l : List StruckD} (h : l.Pairwise (fun s t => s.place ≠ t.place)) (q : Nat) : ¬ 1 < cntAt l q := fun hc => by
  obtain ⟨a, b, x, y, hba, hx, hy, e1, e2⟩ := (cnt_two l q).1 hc
  obtain ⟨ha, ex⟩ := List.getElem?_eq_some_iff.1 hx
  obtain ⟨hb, ey⟩ := List.getElem?_eq_some_iff.1 hy
  have := List.pairwise_iff_getElem.1 h b a hb ha hba
  rw [ex, ey] at this
  exact this (e2.trans e1.symm)
theorem cnt_pair : ∀ {l : List StruckD}, (∀ s ∈ l, 0 ≤ s.place ∧ s.place ≤ 300) → ¬ l.Pairwise (fun s t => s.place ≠ t.place) → ∃ q : Nat, q < 301 ∧ 1 < cntAt l q
  | [], _, h => absurd .nil h
  | s :: l, hp, h => by
    rw [List.pairwise_cons] at h
    by_cases h1 : ∀ t ∈ l, s.place ≠ t.place
    · obtain ⟨q, hq, hc⟩ := cnt_pair (fun t ht => hp t (List.mem_cons_of_mem _ ht)) (fun q => h ⟨h1, q⟩)
      refine ⟨q, hq, Nat.lt_of_lt_of_le hc ?_⟩
      unfold cntAt
      rw [List.countP_cons]
      omega
    · have h2 : ∃ t ∈ l, s.place = t.place := Classical.byContradiction fun q => h1 fun t ht e => q ⟨t, ht, e⟩
      obtain ⟨t, ht, e⟩ := h2
      have hs := hp s (List.mem_cons_self ..)
      obtain ⟨k, hk⟩ := List.getElem?_of_mem ht
      refine ⟨s.place.toNat, by omega, (cnt_two _ _).2 ⟨k + 1, 0, t, s, by omega, hk, rfl, by rw [← e]; omega, by omega⟩⟩
/-- What the law on lines asks. -/
theorem line_law {c : CarriageD} {l : List StruckD} :
    ((lineR c l).2 = 0 → carOk c = true ∧ (halfR c l).1 = false ∧ (overR l).1 = [] ∧ noBl (lineR c l).1.data.toList = l.length ∧ (∀ s ∈ l, okAt c s ∧ 0 < s.letter.size ∧ (lineR c l).1.data.toList[idxOf c s]? = some (byte0 s.letter))) ∧
    ((lineR c l).2 ≠ 0 → (lineR c l).2 = 1 ∨ (lineR c l).2 = 8 ∨ 0 < (overR l).1.length) := by
  unfold lineR
  by_cases hk : carOk c = true ∧ lineOk l = true
  · rw [if_pos hk]
    have hlo := hk.2
    unfold lineOk at hlo
    rw [Bool.and_eq_true, List.all_eq_true] at hlo
    have hb : ∀ s ∈ l, ¬ byte0 s.letter = 32 := fun s hs => (let_byte (hlo.1 s hs)).1
    have hpl : ∀ s ∈ l, 0 ≤ s.place ∧ s.place ≤ 300 := fun s hs => by
      have h := hlo.1 s hs
      unfold struckOk at h
      rw [Bool.and_eq_true, isIn_iff] at h
      exact h.1
    simp only
    constructor
    · intro h0
      rcases hlg : lineGo c [] l with ⟨res, code⟩
      rw [hlg] at h0
      simp only at h0 ⊢
      subst h0
      obtain ⟨g1, g2, g3, g4⟩ := go_ok hb hlg
      refine ⟨hk.1, ?_, ?_, by simpa [noBl] using g1, fun s hs => ⟨(g2 s hs).1, (let_byte (hlo.1 s hs)).2, by simpa using (g2 s hs).2.1⟩⟩
      · rw [halfR_yes hk.1 hk.2]
        simp only
        rw [List.any_eq_false]
        intro s hs he
        exact (g2 s hs).1 (.inr he)
      · rw [overR, if_pos hk.2]
        simp only
        rcases hm : manyL l with _ | ⟨x, r⟩
        · rfl
        · have hx : x ∈ manyL l := by rw [hm]; exact List.mem_cons_self ..
          obtain ⟨q, _, _, _, hc⟩ := (manyFrom_mem l 301 0 x).1 hx
          exact absurd hc (pair_cnt g3 q)
    · intro hne
      rcases go_code (c := c) (l := l) (acc := []) with h | h | h
      · exact absurd h hne
      · exact .inr (.inl h)
      · refine .inr (.inr ?_)
        rcases hlg : lineGo c [] l with ⟨res, code⟩
        rw [hlg] at h
        simp only at h
        subst h
        rcases go_clash hlg with ⟨s, _, _, b, hb, _⟩ | hp
        · cases hb
        · obtain ⟨q, hq, hc⟩ := cnt_pair hpl hp
          rw [overR, if_pos hk.2]
          exact List.length_pos_of_mem ((manyFrom_mem l 301 0 (q : Int)).2 ⟨q, Nat.zero_le _, by omega, rfl, hc⟩)
  · rw [if_neg hk]
    exact ⟨fun h => (by cases h), fun _ => .inl rfl⟩
end Go.Proofs.Ytphhpmnigchooaa
