/- SplitWords: the model's functions and the program's. -/
import Derived.Test.YtndodlfmjdgpcaaSplit
namespace Go.Proofs.Ytndodlfmjdgpcaa
open Go.RowKit
set_option linter.unusedVariables false
set_option linter.unusedSimpArgs false

def extB (s : ByteArray) (x : Nat × Nat) : ByteArray := s.extract x.1 x.2
def splitR (s : ByteArray) : List ByteArray := (spB s s.size 0 0).map (extB s)
def wordsR (s : ByteArray) : List ByteArray := ((spB s s.size 0 0).filter longB).map (extB s)
def neB (x : ByteArray) : Bool := !x.toList.isEmpty
theorem sp_le (s : ByteArray) : ∀ (f pos a : Nat) (x : Nat × Nat), pos + f ≤ s.size → x ∈ spB s f pos a → x.2 ≤ s.size
  | 0, pos, a, x, h, hx => by
    rw [spB, List.mem_singleton] at hx
    subst hx
    simpa using h
  | f + 1, pos, a, x, h, hx => by
    rw [spB, dif_pos (by omega)] at hx
    split at hx
    · rcases List.mem_cons.1 hx with rfl | hx
      · show pos ≤ s.size
        omega
      · exact sp_le s f (pos + 1) (pos + 1) x (by omega) hx
    · exact sp_le s f (pos + 1) a x (by omega) hx
theorem sp_len (s : ByteArray) : ∀ (f pos a : Nat), (spB s f pos a).length ≤ f + 1
  | 0, pos, a => by simp [spB]
  | f + 1, pos, a => by
    unfold spB
    split
    · split
      · have := sp_len s f (pos + 1) (pos + 1)
        simp only [List.length_cons]
        omega
      · have := sp_len s f (pos + 1) a
        omega
    · simp
theorem ne_ext {s : ByteArray} {x : Nat × Nat} (h : x.2 ≤ s.size) : neB (extB s x) = longB x := by
  unfold neB longB extB
  have hz : (s.extract x.1 x.2).size = x.2 - x.1 := by rw [ByteArray.size_extract]; omega
  rw [ByteArray.toList_eq]
  have hl : (s.extract x.1 x.2).data.toList.length = x.2 - x.1 := by rw [Array.length_toList]; exact hz
  by_cases h1 : x.1 < x.2
  · rw [decide_eq_true h1]
    cases hd : (s.extract x.1 x.2).data.toList with
    | nil => rw [hd] at hl; simp at hl; omega
    | cons a b => rfl
  · rw [decide_eq_false h1]
    have : (s.extract x.1 x.2).data.toList = [] := List.length_eq_zero_iff.1 (by omega)
    rw [this]
    rfl
theorem words_filter (s : ByteArray) : (splitR s).filter neB = wordsR s := by
  unfold splitR wordsR
  rw [List.filter_map]
  congr 1
  exact List.filter_congr fun x hx => ne_ext (sp_le s s.size 0 0 x (by omega) hx)
theorem words_go (s : ByteArray) : Lib.goFieldsP isBl s = wordsR s := by
  unfold Lib.goFieldsP Lib.spansOfP wordsR
  rw [go_wd s s.size s.size 0 none [] (by omega) (by omega) (by omega), List.nil_append, Nat.sub_zero, sp_wd s s.size 0 0 (Nat.le_refl _), if_neg (by omega)]
  rfl
theorem flat_str (xs : List ByteArray) : xs.flatMap strC = xs.map Value.string := by
  induction xs with
  | nil => rfl
  | cons a l ih => simp [strC, ih]
theorem owns_strs {w : World} {base n : Nat} {v : Value} {l : List ByteArray} (hn : l.length = n) (h : w.ownsRow base 9 1 v n (l.flatMap strC)) : ∃ A c, v = .slice A n c ∧ OStrs w base A n l := by
  subst hn
  exact ORow.of_owns (fun _ => rfl) h
theorem owns_keep1 {w w' : World} {base : Nat} {e : TypeId} {size n : Nat} {v : Value} {xs : List Value} (h : w.ownsRow base e size v n xs) (hb : Below w.heap.size w w') : w'.ownsRow base e size v n xs :=
  h.kept (grown_below hb none) (by cases v.ownBlock <;> simp)
theorem sp_blank {s : ByteArray} {k a : Nat} (hk : k < s.size) (h : (s[k]'hk).toNat = 32) : spB s (s.size - k) k a = (a, k) :: spB s (s.size - (k + 1)) (k + 1) (k + 1) := by
  rw [show s.size - k = (s.size - (k + 1)) + 1 by omega, spB, dif_pos hk, if_pos h]
theorem sp_more {s : ByteArray} {k a : Nat} (hk : k < s.size) (h : ¬ (s[k]'hk).toNat = 32) : spB s (s.size - k) k a = spB s (s.size - (k + 1)) (k + 1) a := by
  rw [show s.size - k = (s.size - (k + 1)) + 1 by omega, spB, dif_pos hk, if_neg h]
theorem sp_end {s : ByteArray} {a : Nat} : spB s (s.size - s.size) s.size a = [(a, s.size)] := by
  rw [Nat.sub_self, spB]

set_option maxRecDepth 100000 in
set_option maxHeartbeats 3200000 in
theorem split_spec (s : ByteArray) (w : World) (hs : s.size ≤ 1048576) :
    Calls Try.prog 79 #[.string s, .int .u8 32] w fun e w' => ∃ A n c, e = .returned (.slice A n c) ∧ n ≤ 1048577 ∧ OStrs w' w.heap.size A n (splitR s) ∧ Below w.heap.size w w' := by
  obtain ⟨i0, hi, hz0, hz1, hz2⟩ := info_parts Try.infoStr
  have hfin : Hid (∀ L a, spB s s.size 0 0 = L ++ [(a, s.size)] → (splitR s).flatMap strC = (L.map (extB s)).flatMap strC ++ [.string (s.extract a s.size)] ∧ (splitR s).length = L.length + 1) := Lib.hid fun L a h => by
    unfold splitR
    rw [h]
    simp [strC, extB]
  go_enter Try.func79, Try.ntmps79
  go_wp2
  have hown : (w.alloc (.cells #[] 9)).ownsRow w.heap.size 9 1 (.slice (some ⟨w.heap.size, 0, none⟩) 0 0) 0 [] := by
    have := World.ownsRow_lit (w := w) (e := 9) (base := w.heap.size) (size := 1) #[] 0 (Nat.le_refl _) (by simp [maxLen]) (by simp)
    simpa using this
  have hbs := below_a1 w (.cells #[] 9)
  generalize hws : w.alloc (.cells #[] 9) = ws at *
  replace hown := Lib.hid hown
  clear hws
  go_loopw [5, 6, 7] (fun v fv i wr => ∃ (k a : Nat) (L : List (Nat × Nat)), k ≤ s.size ∧ a ≤ k ∧ i = .int .i64 k ∧ fv = .int .i64 a ∧ wr.ownsRow w.heap.size 9 1 v L.length ((L.map (extB s)).flatMap strC) ∧ L.length ≤ k ∧ Below w.heap.size w wr ∧ spB s s.size 0 0 = L ++ spB s (s.size - k) k a) (fun _ _ i _ => s.size - (intOf i).toNat)
  case atStart => exact ⟨0, 0, [], by omega, by omega, rfl, rfl, hown.out, by simp, hbs, rfl⟩
  case round =>
    obtain ⟨k, a, L, hk, hak, rfl, rfl, hrow, hL, hbo, he⟩ := hrel
    replace he := Lib.hid he
    have hk0 : (0 : Int) ≤ (k : Int) := Int.natCast_nonneg _
    have ha0 : (0 : Int) ≤ (a : Int) := Int.natCast_nonneg _
    have hak' : (a : Int) ≤ (k : Int) := by omega
    have hroq := Lib.hid (hrow.lt)
    have hbosz := hbo.size
    by_cases hlt : k < s.size
    · have hk1 : (k : Int) < (s.size : Int) := by omega
      have hk2 : (k : Int) ≤ (s.size : Int) := by omega
      by_cases hb : (s[k]'hlt).toNat = 32
      · have g1 : (((s[k]'hlt).toNat : Int) == 32) = true := beq_iff_eq.2 (by omega)
        have g1' : ((s[k]'hlt).toNat == 32) = true := beq_iff_eq.2 hb
        have hnx := Lib.hid (he.out.trans (by rw [sp_blank hlt hb, show L ++ (a, k) :: spB s (s.size - (k + 1)) (k + 1) (k + 1) = (L ++ [(a, k)]) ++ spB s (s.size - (k + 1)) (k + 1) (k + 1) by simp]))
        have hsl := fun W => run_slice_string (P := Try.prog) W 9 s .i64 .i64 (a : Int) (k : Int) Try.underlying9 (by omega) (by omega) (by omega)
        rw [show (k : Int).toNat = k from rfl, show (a : Int).toNat = a from rfl] at hsl
        have h63 : L.length + 1 ≤ maxLen := by unfold maxLen; omega
        have hby : (L.length + 1) * 16 ≤ 140737488355328 := by omega
        replace hb := Lib.hid hb
        generalize hln : L.length = ln at *
        go_wp2_with (at_builtin; refine wpList_append_own _ rfl _ _ 60 rfl w.heap.size 9 i0 _ 1 16 Try.underlying60 hi hz0 hz1 hz2 rfl (by decide) _ _ _ rfl (hrow.alloc _) ⟨wr.heap.size, 0, none⟩ 1 1 [.string (s.extract a k)] rfl rfl ?c1 ?c2 h63 hby ?c5 ?_)
        case c1 =>
          intro j u hj
          match j, hj with
          | 0, hj => cases hj; simp [Addr.add]
          | j + 1, hj => simp at hj
        case c2 =>
          intro u hu
          simp only [List.mem_cons, List.not_mem_nil, or_false] at hu
          subst hu
          rfl
        case c5 =>
          simp
          omega
        intro v' w3 hown3 hgr3 hnil
        have hrel3 : Hid (w3.ownsRow w.heap.size 9 1 v' (L ++ [(a, k)]).length (((L ++ [(a, k)]).map (extB s)).flatMap strC) ∧ Below w.heap.size w w3 ∧ (L ++ [(a, k)]).length ≤ k + 1) := Lib.hid (by
          refine ⟨?_, Below.grown (hbo.alloc (by omega) _) hgr3 (by simp; omega) (fun j hj => (hroq.out j hj).1), by simp; omega⟩
          rw [List.length_append, List.map_append, List.flatMap_append, hln]
          exact hown3)
        clear hown3 hgr3 hnil
        go_wp2
        go_roundw
        case rel => exact ⟨k + 1, k + 1, L ++ [(a, k)], by omega, by omega, by go_num, by go_num, hrel3.out.1, hrel3.out.2.2, hrel3.out.2.1, hnx.out⟩
        case measure => simp [intOf]; omega
      · have g1 : (((s[k]'hlt).toNat : Int) == 32) = false := beq_eq_false_iff_ne.2 (by omega)
        have g1' : ((s[k]'hlt).toNat == 32) = false := beq_eq_false_iff_ne.2 hb
        have hnx := Lib.hid (he.out.trans (by rw [sp_more hlt hb]))
        replace hb := Lib.hid hb
        go_wp2
        go_roundw
        case rel => exact ⟨k + 1, a, L, by omega, by omega, by go_num, rfl, hrow, by omega, hbo, hnx.out⟩
        case measure => simp [intOf]; omega
    · obtain rfl : k = s.size := by omega
      obtain ⟨hf1, hf2⟩ := hfin.out L a (he.out.trans (by rw [sp_end]))
      replace hf1 := Lib.hid hf1
      replace hf2 := Lib.hid hf2
      have h63 : L.length + 1 ≤ maxLen := by unfold maxLen; omega
      have hby : (L.length + 1) * 16 ≤ 140737488355328 := by omega
      generalize hln : L.length = ln at *
      go_wp2_with (at_builtin; refine wpList_append_own _ rfl _ _ 60 rfl w.heap.size 9 i0 _ 1 16 Try.underlying60 hi hz0 hz1 hz2 rfl (by decide) _ _ _ rfl (hrow.alloc _) ⟨wr.heap.size, 0, none⟩ 1 1 [.string (s.extract a s.size)] rfl rfl ?c1 ?c2 h63 hby ?c5 ?_)
      case c1 =>
        intro j u hj
        match j, hj with
        | 0, hj => cases hj; simp [Addr.add]
        | j + 1, hj => simp at hj
      case c2 =>
        intro u hu
        simp only [List.mem_cons, List.not_mem_nil, or_false] at hu
        subst hu
        rfl
      case c5 =>
        simp
        omega
      intro v' w3 hown3 hgr3 hnil
      rw [← hf1.out] at hown3
      obtain ⟨A, c, rfl, hO⟩ := owns_strs hf2.out hown3
      have hb3 : Below w.heap.size w w3 := Below.grown (hbo.alloc (by omega) _) hgr3 (by simp; omega) (fun j hj => (hroq.out j hj).1)
      replace hO := Lib.hid hO
      clear hown3 hgr3 hnil
      go_wp2
      go_ret
      exact ⟨A, ln + 1, c, rfl, by omega, hO.out, hb3⟩
theorem words_len (s : ByteArray) : (wordsR s).length ≤ s.size := by
  have h : ∀ (f pos : Nat) (st : Option Nat), (∀ a, st = some a → a < pos) → (wdB s f pos st).length ≤ f + (match st with | some _ => 1 | none => 0) := by
    intro f
    induction f with
    | zero =>
      intro pos st _
      cases st <;> simp [wdB]
    | succ f ih =>
      intro pos st hst
      rw [wd_succ]
      split
      · split
        · cases st with
          | none =>
            have := ih (pos + 1) none (fun _ h => by cases h)
            simp only at this ⊢
            omega
          | some a =>
            have := ih (pos + 1) none (fun _ h => by cases h)
            simp only [List.length_cons] at this ⊢
            omega
        · have := ih (pos + 1) (some (st.getD pos)) (fun a h => by
            cases h
            cases st with
            | none => simp
            | some b => have := hst b rfl; simp; omega)
          simp only at this
          cases st <;> simp only <;> omega
      · cases st <;> simp
  have h2 := h s.size 0 none (fun _ h => by cases h)
  unfold wordsR
  rw [sp_wd s s.size 0 0 (Nat.le_refl _), if_neg (by omega), List.length_map]
  simpa using h2
theorem filter_next {xs : List ByteArray} {k : Nat} {x : ByteArray} (hx : xs[k]? = some x) : (xs.take (k + 1)).filter neB = (xs.take k).filter neB ++ (if neB x = true then [x] else []) := by
  obtain ⟨h1, rfl⟩ := List.getElem?_eq_some_iff.1 hx
  rw [List.take_succ_eq_append_getElem h1, List.filter_append]
  congr 1
  by_cases h : neB xs[k] = true
  · rw [if_pos h, List.filter_cons_of_pos h, List.filter_nil]
  · rw [if_neg h, List.filter_cons_of_neg h, List.filter_nil]

set_option maxRecDepth 100000 in
set_option maxHeartbeats 3200000 in
theorem words_spec (s : ByteArray) (w : World) (hs : s.size ≤ 1048576) :
    Calls Try.prog 30 #[.string s] w fun e w' => ∃ A n c, e = .returned (.slice A n c) ∧ n ≤ 1048576 ∧ OStrs w' w.heap.size A n (wordsR s) ∧ Below w.heap.size w w' := by
  obtain ⟨i0, hi, hz0, hz1, hz2⟩ := info_parts Try.infoStr
  have hsp := Lib.hid (split_spec s w hs)
  have hwl := words_len s
  rw [← words_filter]
  rw [← words_filter] at hwl
  generalize splitR s = xs at *
  go_enter Try.func30, Try.ntmps30
  go_wp2_with fail
  refine hsp.out.mono ?_
  rintro e w1 ⟨A, n, c, rfl, hn, hO, hb1⟩
  have hS := hO.srow
  have hlen := hO.1
  clear hO
  go_wp2
  have hown : (w1.alloc (.cells #[] 9)).ownsRow w1.heap.size 9 1 (.slice (some ⟨w1.heap.size, 0, none⟩) 0 0) 0 [] := by
    have := World.ownsRow_lit (w := w1) (e := 9) (base := w1.heap.size) (size := 1) #[] 0 (Nat.le_refl _) (by simp [maxLen]) (by simp)
    simpa using this
  have hbs := below_a1 w1 (.cells #[] 9)
  generalize hws : w1.alloc (.cells #[] 9) = ws at *
  replace hown := Lib.hid hown
  clear hws
  go_loopw [4, 5] (fun v i wr => ∃ k : Nat, k ≤ n ∧ i = .int .i64 k ∧ wr.ownsRow w1.heap.size 9 1 v ((xs.take k).filter neB).length (((xs.take k).filter neB).flatMap strC) ∧ Below w1.heap.size w1 wr) (fun _ i _ => n - (intOf i).toNat)
  case atStart => exact ⟨0, by omega, rfl, hown.out, hbs⟩
  case round =>
    obtain ⟨k, hk, rfl, hrow, hbo⟩ := hrel
    by_cases hlt : k < n
    · obtain ⟨b, off, x, rfl, hb, hx, c0⟩ := str_at (hS.below hbo) hlt
      have hk0 : (0 : Int) ≤ (k : Int) := Int.natCast_nonneg _
      have hk1 : (k : Int) < (n : Int) := by omega
      have hroq := Lib.hid (hrow.lt)
      have hbosz := hbo.size
      have hln2 : ((xs.take k).filter neB).length ≤ k := Nat.le_trans (List.length_filter_le _ _) (by rw [List.length_take]; omega)
      have hnx := filter_next hx.out
      cases hne : x.toList.isEmpty with
      | true =>
        have hnx2 : Hid ((xs.take (k + 1)).filter neB = (xs.take k).filter neB) := Lib.hid (by rw [hnx, neB, hne]; simp)
        clear hnx
        go_wp2
        go_roundw
        case rel => exact ⟨k + 1, by omega, by go_num, by rw [hnx2.out]; exact hrow, hbo⟩
        case measure => simp [intOf]; omega
      | false =>
        have hnx2 : Hid ((xs.take (k + 1)).filter neB = (xs.take k).filter neB ++ [x]) := Lib.hid (by rw [hnx, neB, hne]; simp)
        clear hnx
        generalize hpn : ((xs.take k).filter neB).length = pn at *
        have h63 : pn + 1 ≤ maxLen := by unfold maxLen; omega
        have hby : (pn + 1) * 16 ≤ 140737488355328 := by omega
        go_wp2_with (at_builtin; refine wpList_append_own _ rfl _ _ 60 rfl w1.heap.size 9 i0 _ 1 16 Try.underlying60 hi hz0 hz1 hz2 rfl (by decide) _ _ _ rfl (hrow.alloc _) ⟨wr.heap.size, 0, none⟩ 1 1 [.string x] rfl rfl ?c1 ?c2 h63 hby ?c5 ?_)
        case c1 =>
          intro j u hj
          match j, hj with
          | 0, hj => cases hj; simp [Addr.add]
          | j + 1, hj => simp at hj
        case c2 =>
          intro u hu
          simp only [List.mem_cons, List.not_mem_nil, or_false] at hu
          subst hu
          rfl
        case c5 =>
          simp
          omega
        intro v' w3 hown3 hgr3 hnil
        have hrel3 : Hid (w3.ownsRow w1.heap.size 9 1 v' ((xs.take (k + 1)).filter neB).length (((xs.take (k + 1)).filter neB).flatMap strC) ∧ Below w1.heap.size w1 w3) := Lib.hid (by
          refine ⟨?_, Below.grown (hbo.alloc (by omega) _) hgr3 (by simp; omega) (fun j hj => (hroq.out j hj).1)⟩
          rw [hnx2.out, List.length_append, List.flatMap_append, hpn]
          exact hown3)
        clear hown3 hgr3 hnil
        go_wp2
        go_roundw
        case rel => exact ⟨k + 1, by omega, by go_num, hrel3.out.1, hrel3.out.2⟩
        case measure => simp [intOf]; omega
    · obtain rfl : k = n := by omega
      have hT : xs.take k = xs := List.take_of_length_le (by rw [hlen]; exact Nat.le_refl _)
      rw [hT] at hrow
      obtain ⟨A', c', rfl, hO2⟩ := owns_strs rfl hrow
      have hO3 := Lib.hid (hO2.mono hb1.size)
      clear hO2 hrow
      go_wp2
      go_ret
      exact ⟨A', _, c', rfl, by omega, hO3.out, hb1.trans (hbo.mono hb1.size)⟩

theorem blank_gives (W : World) (x : Nat) : Calls Try.prog 81 #[.int .i32 (x : Int)] W fun e w' => e = .returned (.bool (isBl x)) ∧ ∃ q, w' = W.drewN q := by
  have hx : ((x : Int) == 32) = isBl x := by
    unfold isBl
    rw [Bool.eq_iff_iff, beq_iff_eq, beq_iff_eq]
    omega
  replace hx := Lib.hid hx
  go_enter Try.func81, Try.ntmps81
  go_wp2
  go_ret
  exact ⟨ret_bo hx.out, 0, rfl⟩
set_option maxRecDepth 100000 in
theorem words_impl (s : ByteArray) (w : World) (hs : s.size ≤ 1048576) :
    Calls Try.prog 31 #[.string s] w fun e w' => ∃ A n c, e = .returned (.slice A n c) ∧ n ≤ 1048576 ∧ OStrs w' w.heap.size A n (wordsR s) ∧ Below w.heap.size w w' := by
  have hf := Try.strings_FieldsFunc 81 #[] (enters_of Try.func81 (by kernel_rfl) rfl) isBl s w (by omega) (fun W x _ => blank_gives W x)
  rw [words_go] at hf
  have hwl := words_len s
  replace hf := Lib.hid hf
  go_enter Try.func31, Try.ntmps31
  go_wp2_with fail
  refine hf.out.mono ?_
  rintro e w1 ⟨A, rfl, hA, hown, hb1⟩
  rw [← flat_str] at hown
  obtain ⟨A', c', he, hO⟩ := owns_strs rfl hown
  cases he
  replace hO := Lib.hid hO
  go_wp2
  go_ret
  exact ⟨_, _, _, rfl, by omega, hO.out, hb1⟩
end Go.Proofs.Ytndodlfmjdgpcaa
