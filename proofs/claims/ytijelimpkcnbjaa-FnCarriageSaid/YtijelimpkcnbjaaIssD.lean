/- Slices of slices of int64 as lists of lists: how one is read, how one that a call owns lies in memory. -/
import Derived.Test.YtijelimpkcnbjaaIntO
import Derived.Deep.Matrix
namespace Go.Proofs.Ytijelimpkcnbjaa
open Go.RowKit Go.ChangeShapes Go.WideShapes Go.Deep
set_option linter.unusedVariables false
set_option linter.unusedSimpArgs false

/-- A slice value that lies in a cell. -/
structure RowD where
  A : Option Addr
  n : Nat
  c : Nat
def RowD.cells (r : RowD) : List Value := [.slice r.A r.n r.c]
/-- '.slice A n c' reads as the list of lists xss. -/
def IntSS (w : World) (A : Option Addr) (n : Nat) (xss : List (List Int)) : Prop :=
  ∃ rs : List RowD, SRow 1 RowD.cells w A n rs ∧ xss.length = n ∧ ∀ (i : Nat) (r : RowD) (xs : List Int), rs[i]? = some r → xss[i]? = some xs → Ints w r.A r.n xs ∧ r.n ≤ maxLen
theorem IntSS.len {w : World} {A : Option Addr} {n : Nat} {xss : List (List Int)} (h : IntSS w A n xss) : xss.length = n := let ⟨_, _, h, _⟩ := h; h
theorem IntSS.below {w w' : World} {A : Option Addr} {n : Nat} {xss : List (List Int)} (h : IntSS w A n xss) (hb : Below w.heap.size w w') : IntSS w' A n xss := by
  obtain ⟨rs, h1, h2, h3⟩ := h
  exact ⟨rs, h1.below hb, h2, fun i r xs hr hx => ⟨(h3 i r xs hr hx).1.below hb, (h3 i r xs hr hx).2⟩⟩
theorem iss_at {w : World} {A : Option Addr} {n k : Nat} {xss : List (List Int)} (h : IntSS w A n xss) (hk : k < n) :
    ∃ b off B m c xs, A = some ⟨b, off, none⟩ ∧ b < w.heap.size ∧ Hid (xss[k]? = some xs) ∧ w.cell? ⟨b, off + k, none⟩ = some (.slice B m c) ∧ Ints w B m xs ∧ m ≤ maxLen := by
  obtain ⟨rs, h1, h2, h3⟩ := h
  obtain ⟨b, off, r, e, hb, hx, hc⟩ := h1.at_ hk
  have h0 := hc 0 _ rfl
  rw [Nat.mul_one, Nat.add_zero] at h0
  have hl : k < xss.length := by omega
  obtain ⟨h4, h5⟩ := h3 k r _ hx (List.getElem?_eq_getElem hl)
  exact ⟨b, off, r.A, r.n, r.c, xss[k], e, hb, Lib.hid (List.getElem?_eq_getElem hl), h0, h4, h5⟩

/-- A slice of slices that the call owns: all its blocks have numbers from lo on and below hi, and no two of them are one. -/
def OIntSS (w : World) (lo hi : Nat) (A : Option Addr) (n : Nat) (xss : List (List Int)) : Prop :=
  ∃ rs : List RowD, ORow 26 1 RowD.cells w lo A n rs ∧ xss.length = n ∧ (∀ q, A = some q → q.block < hi) ∧
    (∀ (i : Nat) (r : RowD) (xs : List Int), rs[i]? = some r → xss[i]? = some xs → OInts w lo r.A r.n xs ∧ r.n ≤ 1048576) ∧
    (∀ (i : Nat) (r : RowD) (p : Addr), rs[i]? = some r → r.A = some p → p.block < hi ∧ ∀ q, A = some q → p.block ≠ q.block) ∧
    (∀ (i j : Nat) (r s : RowD) (p q : Addr), i ≠ j → rs[i]? = some r → rs[j]? = some s → r.A = some p → s.A = some q → p.block ≠ q.block)
section
variable {w w' : World} {lo hi : Nat} {A : Option Addr} {n : Nat} {xss : List (List Int)}
theorem OIntSS.srow (h : OIntSS w lo hi A n xss) : IntSS w A n xss := by
  obtain ⟨rs, h1, h2, _, h3, _⟩ := h
  exact ⟨rs, h1.srow, h2, fun i r xs hr hx => ⟨(h3 i r xs hr hx).1.srow, by have := (h3 i r xs hr hx).2; unfold maxLen; omega⟩⟩
theorem OIntSS.below (h : OIntSS w lo hi A n xss) (hb : Below w.heap.size w w') : OIntSS w' lo hi A n xss := by
  obtain ⟨rs, h1, h2, h3, h4, h5, h6⟩ := h
  exact ⟨rs, h1.below hb, h2, h3, fun i r xs hr hx => ⟨(h4 i r xs hr hx).1.below hb, (h4 i r xs hr hx).2⟩, h5, h6⟩
theorem OIntSS.mono {hi' : Nat} (h : OIntSS w lo hi A n xss) (hh : hi ≤ hi') : OIntSS w lo hi' A n xss := by
  obtain ⟨rs, h1, h2, h3, h4, h5, h6⟩ := h
  exact ⟨rs, h1, h2, fun q hq => Nat.lt_of_lt_of_le (h3 q hq) hh, h4, fun i r p hr hp => ⟨Nat.lt_of_lt_of_le (h5 i r p hr hp).1 hh, (h5 i r p hr hp).2⟩, h6⟩
end

/-- Only blocks from lo on and below hi have changed. -/
structure OnlyIn (lo hi : Nat) (w w' : World) : Prop where
  os : w'.os = w.os
  tape : w'.tape = w.tape
  output : w'.output = w.output
  size : w.heap.size ≤ w'.heap.size
  block : ∀ k, k < w.heap.size → (k < lo ∨ hi ≤ k) → w'.heap[k]? = w.heap[k]?
theorem OnlyIn.refl (lo hi : Nat) (w : World) : OnlyIn lo hi w w := ⟨rfl, rfl, rfl, Nat.le_refl _, fun _ _ _ => rfl⟩
theorem OnlyIn.trans {lo hi : Nat} {a b c : World} (h : OnlyIn lo hi a b) (k : OnlyIn lo hi b c) : OnlyIn lo hi a c :=
  ⟨k.os.trans h.os, k.tape.trans h.tape, k.output.trans h.output, Nat.le_trans h.size k.size, fun i hi' hr => (k.block i (Nat.lt_of_lt_of_le hi' h.size) hr).trans (h.block i hi' hr)⟩
theorem OnlyIn.of_grown {lo hi : Nat} {w w' : World} {B : Option Addr} (h : w.grownBy w' (B.map (·.block))) (hB : ∀ q, B = some q → lo ≤ q.block ∧ q.block < hi) : OnlyIn lo hi w w' :=
  ⟨h.os, h.tape, h.output, h.size, fun k hk hr => h.block k hk (by
    cases B with
    | none => simp
    | some q => have := hB q rfl; simp; omega)⟩
theorem OnlyIn.below {lo hi : Nat} {w0 w w' : World} (h : OnlyIn lo hi w w') (hb : Below w0.heap.size w0 w) (hl : w0.heap.size ≤ lo) : Below w0.heap.size w0 w' :=
  ⟨h.os.trans hb.os, h.tape.trans hb.tape, h.output.trans hb.output, Nat.le_trans hb.size h.size, fun k hk => (h.block k (Nat.lt_of_lt_of_le hk hb.size) (Or.inl (by omega))).trans (hb.block k hk)⟩
/-- What is older than the written blocks, or younger. -/
theorem SRow.only {α : Type} {size : Nat} {cells : α → List Value} {w w' : World} {lo hi : Nat} {A : Option Addr} {n : Nat} {xs : List α} (h : SRow size cells w A n xs) (hg : OnlyIn lo hi w w') (hA : ∀ q, A = some q → q.block < lo ∨ hi ≤ q.block) : SRow size cells w' A n xs :=
  ⟨h.1, fun hn => by
    obtain ⟨b, off, e, hb, hc⟩ := h.2 hn
    have hk : w'.heap[b]? = w.heap[b]? := hg.block b hb (hA _ e)
    exact ⟨b, off, e, Nat.lt_of_lt_of_le hb hg.size, fun i x hx j u hu => (World.cell?_of_block (a := ⟨b, _, none⟩) hk).trans (hc i x hx j u hu)⟩⟩
theorem ORow.only {α : Type} {T : TypeId} {size : Nat} {cells : α → List Value} {w w' : World} {base lo hi : Nat} {A : Option Addr} {n : Nat} {xs : List α} (h : ORow T size cells w base A n xs) (hg : OnlyIn lo hi w w') (hA : ∀ q, A = some q → q.block < lo ∨ hi ≤ q.block) : ORow T size cells w' base A n xs :=
  h.block fun p hp => hg.block _ (h.lt p hp) (hA p hp)
/-- A row that was there at an older world, whose later blocks alone are written. -/
theorem SRow.only_old {α : Type} {size : Nat} {cells : α → List Value} {w w' wk : World} {lo hi : Nat} {A : Option Addr} {n : Nat} {xs ys : List α} (h : SRow size cells w A n xs) (hk : SRow size cells wk A n ys) (hg : OnlyIn lo hi w w') (hl : wk.heap.size ≤ lo) : SRow size cells w' A n xs :=
  ⟨h.1, fun hn => by
    obtain ⟨b, off, e, hb, hc⟩ := h.2 hn
    obtain ⟨b', off', e', hb', _⟩ := hk.2 hn
    rw [e] at e'
    cases e'
    have hkk : w'.heap[b]? = w.heap[b]? := hg.block b hb (Or.inl (by omega))
    exact ⟨b, off, e, Nat.lt_of_lt_of_le hb hg.size, fun i x hx j u hu => (World.cell?_of_block (a := ⟨b, _, none⟩) hkk).trans (hc i x hx j u hu)⟩⟩
/-- The same of a slice of slices: W0 is a world in which it lay already. -/
def IntSS.lies (wk : World) (A : Option Addr) (n : Nat) (xss : List (List Int)) : Prop := IntSS wk A n xss
theorem IntSS.only_old {w w' wk : World} {lo hi : Nat} {A : Option Addr} {n : Nat} {xss : List (List Int)} (hk : IntSS wk A n xss) (hb : Below wk.heap.size wk w) (hg : OnlyIn lo hi w w') (hl : wk.heap.size ≤ lo) : IntSS w' A n xss := hk.below (hg.below hb hl)
theorem cell_only {w w' : World} {lo hi : Nat} {a : Addr} {v : Value} (h : w.cell? a = some v) (hg : OnlyIn lo hi w w') (hA : a.block < lo ∨ hi ≤ a.block) : w'.cell? a = some v :=
  (World.cell?_of_block (hg.block _ (World.block_lt_of_cell? w a h) hA)).trans h

abbrev issGood (xs : List Int) : Prop := ∀ x ∈ xs, intGood x
/-- How many numbers there are in all. -/
def tot (xss : List (List Int)) : Nat := (xss.map List.length).sum
theorem tot_drop {xss : List (List Int)} {k : Nat} {xs : List Int} (hx : xss[k]? = some xs) : tot (xss.drop k) = xs.length + tot (xss.drop (k + 1)) := by
  obtain ⟨h1, rfl⟩ := List.getElem?_eq_some_iff.1 hx
  rw [List.drop_eq_getElem_cons h1]
  rfl
theorem tot_append (a b : List (List Int)) : tot (a ++ b) = tot a + tot b := by simp [tot]
theorem tot_end {xss : List (List Int)} {k : Nat} (h : xss.length = k) : tot (xss.drop k) = 0 := by
  rw [List.drop_of_length_le (by omega)]
  rfl
theorem tot_take {xss : List (List Int)} {k : Nat} {xs : List Int} (hx : xss[k]? = some xs) : tot (xss.take (k + 1)) = tot (xss.take k) + xs.length := by
  obtain ⟨h1, rfl⟩ := List.getElem?_eq_some_iff.1 hx
  rw [List.take_succ_eq_append_getElem h1, tot_append]
  simp [tot]
theorem tot_le {xss : List (List Int)} {k : Nat} {xs : List Int} (hx : xss[k]? = some xs) : xs.length ≤ tot xss := by
  have h1 := tot_drop hx
  have h2 : tot xss = tot (xss.take k) + tot (xss.drop k) := by
    conv => lhs; rw [← List.take_append_drop k xss]
    simp [tot, -List.take_append_drop]
  omega
theorem tot_take_le (xss : List (List Int)) (k : Nat) : tot (xss.take k) ≤ tot xss := by
  have h2 : tot xss = tot (xss.take k) + tot (xss.drop k) := by
    conv => lhs; rw [← List.take_append_drop k xss]
    simp [tot, -List.take_append_drop]
  omega
theorem tot_all {xss : List (List Int)} {k : Nat} (h : xss.length ≤ k) : tot (xss.take k) = tot xss := by rw [List.take_of_length_le h]

theorem Try.infoIntS : (Try.prog.info? 26).map (fun i => (i.zero, i.size, i.bytes)) = some (some (.slice none 0 0), 1, 24) := by kernel_rfl

def szIssOut (l : Int) (n : Nat) (xss : List (List Int)) (w : World) (e : Ending) (w' : World) : Prop := ∃ v : Int, e = .returned (.int .i64 v) ∧ v ≤ l ∧ -1 ≤ v ∧ (¬ v < 0 → n + (tot xss : Int) + v ≤ l) ∧ w = w'
def szIssBOut (l : Int) (n : Nat) (xss : List (List Int)) (w : World) (e : Ending) (w' : World) : Prop := ∃ v : Int, e = .returned (.int .i64 v) ∧ v ≤ l ∧ -1 ≤ v ∧ (¬ v < 0 → n + (tot xss : Int) + v ≤ l) ∧ Below w.heap.size w w'
set_option maxRecDepth 100000 in
theorem open_intss {H : Type} {enc : TypeId × Value → H} {w : World} {base : Nat} {held : Bool} {r : Reach} {b0 : Nat} {v : Value} {d : DataW H} {p : List MemPlace}
    (hv : Value.okWide Try.prog w r b0 44 v) (h : DataW.Trod enc Try.prog w base (fun _ => true) held 44 v d p) :
    ∃ A n c xss, v = .slice A n c ∧ (n ≤ maxLen ∧ IntSS w A n xss ∧ ∀ xs ∈ xss, ∀ x ∈ xs, intGood x) := by
  obtain ⟨A, n, c, rfl⟩ := okWide_slice Try.underlying44 hv
  obtain ⟨fuel, hf⟩ := h
  rcases open_int_rows Try.underlying44 Try.underlying26 Try.underlying2 (by kernel_rfl) (by kernel_rfl) (by simpa [Value.cells] using hf) with ⟨h0, _⟩ | ⟨a, len, cap, AA, L, C, Z, hcs, _, hl, hm, _, hc⟩
  · simp at h0
    obtain ⟨rfl, rfl, rfl⟩ := h0
    exact ⟨_, _, _, [], rfl, by unfold maxLen; omega, ⟨[], .nil_, rfl, fun i r xs hr => by simp at hr⟩, fun x hx => by cases hx⟩
  · simp at hcs
    obtain ⟨rfl, rfl, rfl⟩ := hcs
    have hrow : ∀ i, i < n → Ints w (AA i) (L i) ((Z i).take (L i)) ∧ L i ≤ maxLen := fun i hi => by
      obtain ⟨h1, h2, h3, h4, h5, h6, h7⟩ := hc i (by omega)
      refine ⟨?_, by omega⟩
      have hlen : ((Z i).take (L i)).length = L i := by rw [List.length_take]; omega
      refine ⟨hlen, fun hp => ?_⟩
      cases hA : AA i with
      | none => have := h6 hA; omega
      | some a' =>
        obtain ⟨h8, h9⟩ := h7 a' hA
        have h10 := h9 0 (by omega)
        obtain ⟨bb, off, spot⟩ := a'
        have hspot : spot = none := by simpa [Addr.add] using World.cell?_spot h10
        subst hspot
        refine ⟨bb, off, rfl, by have := World.block_lt_of_cell? w _ h10; simpa [Addr.add] using this, fun j x hx q u hu => ?_⟩
        have hj : j < L i := by rw [← hlen]; exact (List.getElem?_eq_some_iff.1 hx).1
        match q, hu with
        | 0, hu =>
          cases hu
          have h11 := h9 j (by omega)
          rw [List.getElem?_take, if_pos hj] at hx
          have h12 : (Z i).getD j 0 = x := by simp [List.getD, hx]
          rw [h12] at h11
          unfold Addr.add at h11
          by_cases hz : j = 0
          · subst hz; simpa using h11
          · rw [if_neg hz] at h11; simpa using h11
        | q + 1, hu => simp [intC] at hu
    refine ⟨some a, n, c, (List.range n).map fun i => (Z i).take (L i), rfl, Nat.le_trans hl hm, ⟨(List.range n).map fun i => ⟨AA i, L i, C i⟩, ⟨by simp, fun hn => ?_⟩, by simp, fun i r xs hr hx => ?_⟩, fun xs hxs x hx => ?_⟩
    · have h10 := (hc 0 (by omega)).1
      obtain ⟨bb, off, spot⟩ := a
      have hspot : spot = none := by simpa [Addr.add] using World.cell?_spot h10
      subst hspot
      refine ⟨bb, off, rfl, by have := World.block_lt_of_cell? w _ h10; simpa [Addr.add] using this, fun i r hr q u hu => ?_⟩
      have hi : i < n := by have := (List.getElem?_eq_some_iff.1 hr).1; simpa using this
      simp [hi] at hr
      subst hr
      match q, hu with
      | 0, hu =>
        cases hu
        have h11 := (hc i (by omega)).1
        unfold Addr.add at h11
        by_cases hz : i = 0
        · subst hz; simpa using h11
        · rw [if_neg hz] at h11; simpa using h11
      | q + 1, hu => simp [RowD.cells] at hu
    · have hi : i < n := by have := (List.getElem?_eq_some_iff.1 hr).1; simpa using this
      simp [hi] at hr hx
      subst hr hx
      exact hrow i hi
    · simp only [List.mem_map, List.mem_range] at hxs
      obtain ⟨i, hi, rfl⟩ := hxs
      exact (hc i (by omega)).2.2.2.2.1 x (List.mem_of_mem_take hx)
end Go.Proofs.Ytijelimpkcnbjaa
