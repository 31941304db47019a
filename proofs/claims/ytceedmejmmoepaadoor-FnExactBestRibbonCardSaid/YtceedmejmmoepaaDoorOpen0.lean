/- An argument that is a slice of structs of one-cell fields, opened to a list. No program is named. -/
import Derived.Test.YtceedmejmmoepaaDoorRows0
namespace Go.Proofs.YtceedmejmmoepaaDoor
open Go.RowKit Go.ChangeShapes Go.WideShapes Go.Deep
set_option linter.unusedVariables false
section
variable {H : Type} {enc : TypeId × Value → H} {P : Program} {w : World} {base : Nat} {spare : Nat → Bool} {held : Bool}

/-- Each element of the slice has its cells, and each field's cell its own reading. -/
theorem open_cells {t e : TypeId} {fs : Array Field} {fuel : Nat} {A : Option Addr} {len cap : Nat} {x : DataW H × List MemPlace} (ht : P.underlying t = some (.slice e)) (he : P.underlying e = some (.struct fs))
    (hone : oneCellFields P fs = true) (hC : P.cellsOf e = fs.size) (h : DataW.trod enc P w base spare held fuel t [.slice A len cap] = some x) :
    len ≤ cap ∧ cap ≤ maxLen ∧ (0 < len → ∃ a, A = some a ∧ ∀ i, i < len → ∀ (j : Nat) (f : Field), fs[j]? = some f → ∃ (n : Nat) (v : Value) (y : DataW H × List MemPlace), w.cell? (a.add (i * fs.size + j)) = some v ∧ DataW.trod enc P w base spare held n f.type [v] = some y) := by
  rcases open_slice ht h with ⟨hcs, _⟩ | ⟨a, len', cap', m, n, D, Pl, hcs, hb, hl, hm, hmm, hx, hi⟩
  · simp at hcs
    obtain ⟨rfl, rfl, rfl⟩ := hcs
    exact ⟨Nat.le_refl _, by unfold maxLen; omega, fun h => absurd h (by omega)⟩
  · simp at hcs
    obtain ⟨rfl, rfl, rfl⟩ := hcs
    refine ⟨hl, hm, fun _ => ⟨a, rfl, fun i him j f hj => ?_⟩⟩
    have him' : i < m := by
      subst hmm
      split <;> omega
    obtain ⟨cs', hc, ht'⟩ := hi i him'
    rw [hC] at hc
    obtain ⟨ys, n', hn', hy, hlen, hyl, hf⟩ := DataW.trod_struct he ht'
    obtain ⟨_, hcl, hat⟩ := World.cells?_some hc
    obtain ⟨ho, hk⟩ := hone_of hone j f hj
    have hjl : j < fs.size := (Array.getElem?_eq_some_iff.1 hj).1
    have hcell := hat j hjl
    have hv : cs'[j]? = some (cs'[j]'(by omega)) := List.getElem?_eq_getElem (by omega)
    have h1 := hf j f hj
    rw [ho, hk] at h1
    have hone' : (cs'.drop j).take 1 = [cs'[j]'(by omega)] := by
      rw [List.drop_eq_getElem_cons (by omega)]
      rfl
    rw [hone'] at h1
    have hys : ys[j]? = some (ys[j]'(by omega)) := List.getElem?_eq_getElem (by omega)
    refine ⟨n', _, ys[j]'(by omega), ?_, h1.trans hys⟩
    rw [← Go.Deep.add_add, hcell, hv]

/-- From the cells of each element to a list: 'mk' makes an element's datum out of its cells. -/
theorem open_list {α : Type} (size : Nat) (cells : α → List Value) (good : α → Prop) (hlen : ∀ x, (cells x).length = size) {A : Option Addr} {len : Nat} (hs : 0 < size)
    (h : 0 < len → ∃ a, A = some a ∧ ∀ i, i < len → ∃ x : α, good x ∧ ∀ j u, (cells x)[j]? = some u → w.cell? (a.add (i * size + j)) = some u) :
    ∃ xs : List α, SRow size cells w A len xs ∧ ∀ x ∈ xs, good x := by
  by_cases h0 : len = 0
  · subst h0
    exact ⟨[], .nil_, fun x hx => by cases hx⟩
  · obtain ⟨a, rfl, hi⟩ := h (by omega)
    obtain ⟨xs, hl, hp⟩ := list_of_lt len hi
    refine ⟨xs, ⟨hl, fun _ => ?_⟩, fun x hx => ?_⟩
    · obtain ⟨b, off, spot⟩ := a
      have hx0 : 0 < xs.length := by omega
      have h1 := (hp 0 _ (List.getElem?_eq_getElem hx0)).2 0 ((cells xs[0])[0]'(by rw [hlen]; exact hs)) (List.getElem?_eq_getElem (by rw [hlen]; exact hs))
      have hspot : spot = none := by simpa [Addr.add] using World.cell?_spot h1
      subst hspot
      refine ⟨b, off, rfl, ?_, fun i x hx j u hu => ?_⟩
      · have := World.block_lt_of_cell? w _ h1
        simpa [Addr.add] using this
      · have h2 := (hp i x hx).2 j u hu
        rw [Nat.add_assoc]
        unfold Addr.add at h2
        by_cases hz : i * size + j = 0
        · rw [if_pos hz] at h2
          rw [hz]
          exact h2
        · rw [if_neg hz] at h2
          exact h2
    · obtain ⟨i, hi, rfl⟩ := List.getElem_of_mem hx
      exact (hp i _ (List.getElem?_eq_getElem hi)).1
/-- A struct of one-cell fields, by value: each field's cell with its own reading. -/
theorem open_agg_any {r : Reach} {b0 : Nat} {t : TypeId} {fs : Array Field} {v : Value} {d : DataW H} {p : List MemPlace} (hs : P.underlying t = some (.struct fs)) (hone : oneCellFields P fs = true) (hC : P.cellsOf t = fs.size)
    (hv : Value.okWide P w r b0 t v) (h : DataW.Trod enc P w base spare held t v d p) :
    ∃ cs : Array Value, v = .agg cs ∧ cs.size = fs.size ∧ ∀ (j : Nat) (f : Field), fs[j]? = some f → ∃ (u : Value) (n : Nat) (y : DataW H × List MemPlace), cs[j]? = some u ∧ DataW.trod enc P w base spare held n f.type [u] = some y := by
  obtain ⟨cs, rfl, hsz⟩ := okWide_struct hs hv
  obtain ⟨fuel, hf⟩ := h
  have hsz2 := hsz.trans hC
  refine ⟨cs, rfl, hsz2, fun j f hj => ?_⟩
  obtain ⟨ys, n', hn', hy, hlen, hyl, hfj⟩ := DataW.trod_struct hs hf
  obtain ⟨ho, hk⟩ := hone_of hone j f hj
  have hjl : j < fs.size := (Array.getElem?_eq_some_iff.1 hj).1
  have hjc : j < cs.size := by omega
  have h1 := hfj j f hj
  rw [ho, hk] at h1
  have hone' : ((Value.agg cs).cells.toList.drop j).take 1 = [cs[j]] := by
    have : (Value.agg cs).cells.toList = cs.toList := by simp [Value.cells]
    rw [this, List.drop_eq_getElem_cons (by simpa using hjc)]
    simp
  rw [hone'] at h1
  have hys : ys[j]? = some (ys[j]'(by omega)) := List.getElem?_eq_getElem (by omega)
  exact ⟨cs[j], n', ys[j]'(by omega), Array.getElem?_eq_getElem hjc, h1.trans hys⟩
end
end Go.Proofs.YtceedmejmmoepaaDoor
