/- A range over a map that is known entry by entry, in whatever order. No program is named. -/
import Derived.Test.YtijelimpkcnbjaaMaps
import Derived.Test.YtijelimpkcnbjaaOwn0
import Derived.Maps.RangeRun
namespace Go.Proofs.Ytijelimpkcnbjaa
open Go.RowKit Go.ChangeMaps Go.MapKept
set_option linter.unusedVariables false
set_option linter.unusedSimpArgs false
set_option linter.unusedSectionVars false

theorem setBlock_at {w : World} {r : Nat} (o : Obj) (h : r < w.heap.size) : (setBlock w r o).heap[r]? = some o := by simp [setBlock, h]
theorem setBlock_else {w : World} {r i : Nat} (o : Obj) (h : i ≠ r) : (setBlock w r o).heap[i]? = w.heap[i]? := by
  have h' : ¬ r = i := fun e => h e.symm
  simp [setBlock, Array.getElem?_setIfInBounds, h']
theorem nodup_len {α : Type} [DecidableEq α] : ∀ {A B : List α}, A.Nodup → (∀ x ∈ A, x ∈ B) → A.length ≤ B.length
  | [], B, _, _ => Nat.zero_le _
  | a :: A, B, hn, hs => by
    have ha : a ∈ B := hs a (by simp)
    simp only [List.nodup_cons] at hn
    have hl := List.length_erase_of_mem ha
    have hp : 0 < B.length := List.length_pos_of_mem ha
    have := nodup_len (B := B.erase a) hn.2 (fun y hy => (List.mem_erase_of_ne (fun (e : y = a) => hn.1 (by rw [← e]; exact hy))).2 (hs y (List.mem_cons_of_mem _ hy)))
    simp only [List.length_cons]
    omega

/-- The iterator in block r goes over the map in block bm, whose entries are l, and has handed out dn. -/
def Ranging {κ : Type} (enc : κ → Value) (w : World) (r bm : Nat) (l dn : List (κ × Value)) : Prop :=
  ∃ es clock seen, (w.heap[r]? = some (.mapIter (some bm) clock seen clock) ∧ seen.size = dn.length) ∧ w.heap[bm]? = some (.map es clock) ∧ es.toList.map (fun e => (e.key, e.val)) = l.map (fun x => (enc x.1, x.2)) ∧ (∀ x ∈ es.toList, x.born < clock) ∧ (es.toList.map (·.born)).Nodup ∧
    ∃ dnE : List MapEntry, dnE.map (fun e => (e.key, e.val)) = dn.map (fun x => (enc x.1, x.2)) ∧ (∀ e ∈ dnE, e ∈ es.toList) ∧ (dnE.map (·.born)).Nodup ∧ ∀ b, seen.contains b = true ↔ b ∈ dnE.map (·.born)
section
variable {κ : Type} [DecidableEq κ] {enc : κ → Value} {P : Program} {w w' : World} {r bm : Nat} {l dn : List (κ × Value)}
theorem MapIs.range {t kt e : TypeId} (h : MapIs enc w bm l) (ht : P.underlying t = some (.map kt e)) :
    ∃ w', (Instr.range t (.map (some bm))).run P w = .ok (.pointer (some ⟨w.heap.size, 0, none⟩)) w' ∧ Ranging enc w' w.heap.size bm l [] ∧ Below w.heap.size w w' ∧ w'.heap.size = w.heap.size + 1 := by
  obtain ⟨es, c, hb, hl, hbn, hnd⟩ := h
  refine ⟨_, run_range_map w t kt e bm es c ht hb, ⟨es, c, #[], ⟨heap_alloc_new _ _, rfl⟩, ?_, hl, hbn, hnd, [], rfl, by simp, by simp, by simp⟩, below_a1 _ _, by simp⟩
  rw [Below.heap_alloc _ _ _ (Array.getElem?_eq_some_iff.1 hb).1]
  exact hb
theorem Ranging.block (h : Ranging enc w r bm l dn) (h1 : w'.heap[r]? = w.heap[r]?) (h2 : w'.heap[bm]? = w.heap[bm]?) : Ranging enc w' r bm l dn := by
  obtain ⟨es, c, seen, hr, hb, hh⟩ := h
  exact ⟨es, c, seen, ⟨h1.trans hr.1, hr.2⟩, h2.trans hb, hh⟩
theorem Ranging.lt (h : Ranging enc w r bm l dn) : r < w.heap.size ∧ bm < w.heap.size := by
  obtain ⟨es, c, seen, hr, hb, hh⟩ := h
  exact ⟨(Array.getElem?_eq_some_iff.1 hr.1).1, (Array.getElem?_eq_some_iff.1 hb).1⟩
theorem Ranging.seen (h : Ranging enc w r bm l dn) : (w.iterSeen r).size = dn.length := by
  obtain ⟨es, c, seen, hr, hb, hh⟩ := h
  simp only [World.iterSeen, hr.1]
  exact hr.2
theorem Ranging.below (h : Ranging enc w r bm l dn) (hb : Below w.heap.size w w') : Ranging enc w' r bm l dn := h.block (hb.block r h.lt.1) (hb.block bm h.lt.2)
theorem pairs_inj (hi : ∀ a b : κ, enc a = enc b → a = b) : ∀ {x y : List (κ × Value)}, x.map (fun x => (enc x.1, x.2)) = y.map (fun x => (enc x.1, x.2)) → x = y
  | [], [], _ => rfl
  | [], _ :: _, h => by cases h
  | _ :: _, [], h => by cases h
  | a :: x, b :: y, h => by
    simp only [List.map_cons, List.cons.injEq, Prod.mk.injEq] at h
    obtain ⟨⟨h1, h2⟩, h3⟩ := h
    rw [pairs_inj hi h3, Prod.ext (hi _ _ h1) h2]
theorem Ranging.next (h : Ranging enc w r bm l dn) (hne : r ≠ bm) :
    ((∀ x ∈ l, ∃ y ∈ dn, enc y.1 = enc x.1 ∧ y.2 = x.2) ∧ dn.length = l.length ∧ (∃ p : List (Value × Value), p.Perm (l.map fun x => (enc x.1, x.2)) ∧ p = dn.map fun x => (enc x.1, x.2)) ∧ ∀ ty, (Instr.next (.pointer (some ⟨r, 0, none⟩)) false ty).run P w = .ok (.tuple #[.bool false]) w) ∨
    ∃ (k : κ) (v : Value) (w'' : World), (k, v) ∈ l ∧ dn.length < l.length ∧ (∀ ty, (Instr.next (.pointer (some ⟨r, 0, none⟩)) false ty).run P w = .ok (.tuple #[.bool true, enc k, v]) w'') ∧ (Instr.entry (.pointer (some ⟨r, 0, none⟩))).run P w'' = .ok (.tuple #[enc k, v]) w'' ∧ Ranging enc w'' r bm l (dn ++ [(k, v)]) ∧ w.grownBy w'' (some r) := by
  obtain ⟨es, c, seen, ⟨hr, hss⟩, hb, hl, hbn, hnd, dnE, hd, hdm, hdn, hseen⟩ := h
  have hlen : es.toList.length = l.length := by have := congrArg List.length hl; simpa using this
  have hdlen : dnE.length = dn.length := by have := congrArg List.length hd; simpa using this
  have hinj : ∀ x ∈ es.toList, ∀ y ∈ es.toList, x.born = y.born → x = y := by
    intro x hx y hy e
    rcases List.getElem_of_mem hx with ⟨i, hi, rfl⟩
    rcases List.getElem_of_mem hy with ⟨j, hj, rfl⟩
    have : i = j := by
      rcases Nat.lt_trichotomy i j with h | h | h
      · exact absurd e (List.pairwise_iff_getElem.1 (List.pairwise_map.1 hnd) i j hi hj h)
      · exact h
      · exact absurd e.symm (List.pairwise_iff_getElem.1 (List.pairwise_map.1 hnd) j i hj hi h)
    subst this
    rfl
  have hesn : es.toList.Nodup := by
    have := List.pairwise_map.1 hnd
    exact this.imp fun h e => h (by rw [e])
  have hdnn : dnE.Nodup := by
    have := List.pairwise_map.1 hdn
    exact this.imp fun h e => h (by rw [e])
  rcases run_next_at (P := P) w 0 r bm c c seen es c hr hb hbn (Nat.le_refl _) with ⟨h0, hrun⟩ | ⟨e, he, w1, hw1, hrun⟩
  · left
    have hall : ∀ x ∈ es.toList, x ∈ dnE := by
      intro x hx
      have hs : seen.contains x.born = true := by
        cases hc : seen.contains x.born with
        | true => rfl
        | false =>
          have hm : x ∈ (leftOf es seen).toList := by
            unfold leftOf
            simp only [Array.toList_filter, List.mem_filter]
            exact ⟨hx, by simp only [hc, Bool.not_false]⟩
          have : (leftOf es seen).toList.length = 0 := by simpa using h0
          rw [List.length_eq_zero_iff.1 this] at hm
          cases hm
      obtain ⟨y, hy, e⟩ := List.mem_map.1 ((hseen _).1 hs)
      have := hinj _ (hdm y hy) _ hx e
      subst this
      exact hy
    have hperm : dnE.Perm es.toList := (List.perm_ext_iff_of_nodup hdnn hesn).2 fun x => ⟨fun h => hdm x h, fun h => hall x h⟩
    refine ⟨fun x hx => ?_, by rw [← hdlen, ← hlen]; exact hperm.length_eq, ⟨_, by rw [← hl]; exact (hperm.map fun e : MapEntry => (e.key, e.val)), hd⟩, fun _ => hrun⟩
    have : (enc x.1, x.2) ∈ es.toList.map (fun e => (e.key, e.val)) := by rw [hl]; exact List.mem_map_of_mem (f := fun x : κ × Value => (enc x.1, x.2)) hx
    obtain ⟨e, he, h1⟩ := List.mem_map.1 this
    have h2 : (e.key, e.val) ∈ dn.map (fun x => (enc x.1, x.2)) := by rw [← hd]; exact List.mem_map_of_mem (f := fun e : MapEntry => (e.key, e.val)) (hall e he)
    obtain ⟨y, hy, h3⟩ := List.mem_map.1 h2
    rw [h1] at h3
    exact ⟨y, hy, (Prod.mk.inj h3).1, (Prod.mk.inj h3).2⟩
  · right
    have hee := mem_left he
    have hin : (e.key, e.val) ∈ l.map (fun x => (enc x.1, x.2)) := by rw [← hl]; exact List.mem_map_of_mem (f := fun e : MapEntry => (e.key, e.val)) hee.1
    obtain ⟨⟨k, v⟩, hkv, hke⟩ := List.mem_map.1 hin
    simp only [Prod.mk.injEq] at hke
    obtain ⟨hk1, hk2⟩ := hke
    have hnot : e.born ∉ dnE.map (·.born) := fun h => by
      have := (hseen _).2 h
      rw [hee.2] at this
      cases this
    have hlt : dnE.length < es.toList.length := by
      have hnd2 : (dnE.map (·.born) ++ [e.born]).Nodup := by
        rw [List.nodup_append]
        exact ⟨hdn, by simp, fun a ha b hb' e' => by simp only [List.mem_singleton] at hb'; subst hb'; subst e'; exact hnot ha⟩
      have hsub : ∀ x ∈ dnE.map (·.born) ++ [e.born], x ∈ es.toList.map (·.born) := fun x hx => by
        rcases List.mem_append.1 hx with h | h
        · obtain ⟨y, hy, rfl⟩ := List.mem_map.1 h
          exact List.mem_map_of_mem (f := (·.born)) (hdm y hy)
        · simp only [List.mem_singleton] at h; subst h; exact List.mem_map_of_mem (f := (·.born)) hee.1
      have := nodup_len hnd2 hsub
      simp only [List.length_append, List.length_map, List.length_cons, List.length_nil] at this
      omega
    have hr1 : w1.heap[r]? = some (.mapIter (some bm) c seen c) := by rcases hw1 with rfl | rfl <;> exact hr
    have hb1 : w1.heap[bm]? = some (.map es c) := by rcases hw1 with rfl | rfl <;> exact hb
    have hnr : (setBlock w1 r (.mapIter (some bm) c (seen.push e.born) c)).heap[r]? = some (.mapIter (some bm) c (seen.push e.born) c) := setBlock_at _ (Array.getElem?_eq_some_iff.1 hr1).1
    have hnb : (setBlock w1 r (.mapIter (some bm) c (seen.push e.born) c)).heap[bm]? = some (.map es c) := (setBlock_else _ (fun e => hne e.symm)).trans hb1
    rw [← hk1, ← hk2] at hrun
    refine ⟨k, v, _, hkv, by omega, fun _ => hrun, ?_, ⟨es, c, seen.push e.born, ⟨hnr, by simp [hss]⟩, hnb, hl, hbn, hnd, dnE ++ [e], by simp [hd, hk1, hk2], ?_, ?_, ?_⟩, ?_⟩
    · have := run_entry_at (P := P) _ r bm c seen es c e hnr hnb hee.1 hnd
      rw [← hk1, ← hk2] at this
      exact this
    · intro x hx
      rcases List.mem_append.1 hx with h | h
      · exact hdm x h
      · simp only [List.mem_singleton] at h; subst h; exact hee.1
    · rw [List.map_append, List.nodup_append]
      exact ⟨hdn, by simp, fun a ha b hb' e' => by simp only [List.map_cons, List.map_nil, List.mem_singleton] at hb'; subst hb'; subst e'; exact hnot ha⟩
    · intro b
      rw [contains_push, List.map_append, List.mem_append, Bool.or_eq_true, hseen b]
      simp
    · rcases hw1 with rfl | rfl
      · exact ⟨rfl, rfl, rfl, by simp [setBlock], fun i _ hi => setBlock_else _ (fun e => hi (by rw [e]))⟩
      · exact ⟨rfl, rfl, rfl, by simp [setBlock], fun i _ hi => setBlock_else _ (fun e => hi (by rw [e]))⟩
end
end Go.Proofs.Ytijelimpkcnbjaa
