/- Parts of a text between slashes: the model's function and the program's. -/
import Derived.Test.YticggclpaalhgaaDoorStrO
import Derived.Test.YticggclpaalhgaaDoorShelf
import Derived.Test.YticggclpaalhgaaDoorRdB
import Derived.Shelf.Strings.SplitCore
import Derived.Lib.SplitLaws
import Derived.Laws.OwnMore
namespace Go.Proofs.YticggclpaalhgaaDoor
open Go.RowKit
set_option linter.unusedVariables false
set_option linter.unusedSimpArgs false

/-- The parts between blanks, as places: from 'pos' on, f bytes further, the part begun at 'a'. -/
def spB (s : ByteArray) : Nat → Nat → Nat → List (Nat × Nat)
  | 0, pos, a => [(a, pos)]
  | f + 1, pos, a => if h : pos < s.size then (if (s[pos]'h).toNat = 47 then (a, pos) :: spB s f (pos + 1) (pos + 1) else spB s f (pos + 1) a) else [(a, pos)]
def extB (s : ByteArray) (x : Nat × Nat) : ByteArray := s.extract x.1 x.2
def splitR (s : ByteArray) : List ByteArray := (spB s s.size 0 0).map (extB s)
theorem flat_str (xs : List ByteArray) : xs.flatMap strC = xs.map Value.string := by
  induction xs with
  | nil => rfl
  | cons a l ih => simp [strC, ih]
theorem owns_strs {w : World} {base n : Nat} {v : Value} {l : List ByteArray} (hn : l.length = n) (h : w.ownsRow base 9 1 v n (l.flatMap strC)) : ∃ A c, v = .slice A n c ∧ OStrs w base A n l := by
  subst hn
  exact ORow.of_owns (fun _ => rfl) h
theorem owns_keep1 {w w' : World} {base : Nat} {e : TypeId} {size n : Nat} {v : Value} {xs : List Value} (h : w.ownsRow base e size v n xs) (hb : Below w.heap.size w w') : w'.ownsRow base e size v n xs :=
  h.kept (grown_below hb none) (by cases v.ownBlock <;> simp)
theorem sp_blank {s : ByteArray} {k a : Nat} (hk : k < s.size) (h : (s[k]'hk).toNat = 47) : spB s (s.size - k) k a = (a, k) :: spB s (s.size - (k + 1)) (k + 1) (k + 1) := by
  rw [show s.size - k = (s.size - (k + 1)) + 1 by omega, spB, dif_pos hk, if_pos h]
theorem sp_more {s : ByteArray} {k a : Nat} (hk : k < s.size) (h : ¬ (s[k]'hk).toNat = 47) : spB s (s.size - k) k a = spB s (s.size - (k + 1)) (k + 1) a := by
  rw [show s.size - k = (s.size - (k + 1)) + 1 by omega, spB, dif_pos hk, if_neg h]
theorem sp_end {s : ByteArray} {a : Nat} : spB s (s.size - s.size) s.size a = [(a, s.size)] := by
  rw [Nat.sub_self, spB]

set_option maxRecDepth 100000 in
set_option maxHeartbeats 3200000 in
theorem split_spec (s : ByteArray) (w : World) (hs : s.size ≤ 1048576) :
    Calls Tryd.prog 10 #[.string s, .int .u8 47] w fun e w' => ∃ A n c, e = .returned (.slice A n c) ∧ n ≤ 1048577 ∧ OStrs w' w.heap.size A n (splitR s) ∧ Below w.heap.size w w' := by
  obtain ⟨i0, hi, hz0, hz1, hz2⟩ := info_parts Tryd.infoStr
  have hfin : Hid (∀ L a, spB s s.size 0 0 = L ++ [(a, s.size)] → (splitR s).flatMap strC = (L.map (extB s)).flatMap strC ++ [.string (s.extract a s.size)] ∧ (splitR s).length = L.length + 1) := Lib.hid fun L a h => by
    unfold splitR
    rw [h]
    simp [strC, extB]
  go_enter Tryd.func10, Tryd.ntmps10
  go_wp2
  have hown : (w.alloc (.cells #[] 9)).ownsRow w.heap.size 9 1 (.slice (some ⟨w.heap.size, 0, none⟩) 0 0) 0 [] := by
    have := World.ownsRow_lit (w := w) (e := 9) (base := w.heap.size) (size := 1) #[] 0 (Nat.le_refl _) (by simp [maxLen]) (by simp)
    simpa using this
  have hbs := below_a1 w (.cells #[] 9)
  generalize hws : w.alloc (.cells #[] 9) = ws at *
  replace hown := Lib.hid hown
  clear hws
  go_loopw [5, 6, 7] (fun v fv i wr => ∃ (k a : Nat) (L : List (Nat × Nat)), k ≤ s.size ∧ a ≤ k ∧ i = .int .i64 k ∧ fv = .int .i64 a ∧ wr.ownsRow w.heap.size 9 1 v L.length ((L.map (extB s)).flatMap strC) ∧ L.length ≤ k ∧ Below w.heap.size w wr ∧ spB s s.size 0 0 = L ++ spB s (s.size - k) k a) (fun _ _ i _ => s.size - (intOf i).toNat)
  case atStart => exact ⟨0, 0, [], by omega, by omega, rfl, rfl, hown.out, by simp, hbs, rfl⟩
  case round =>
    obtain ⟨k, a, L, hk, hak, rfl, rfl, hrow, hL, hbo, he⟩ := hrel
    replace he := Lib.hid he
    have hk0 : (0 : Int) ≤ (k : Int) := Int.natCast_nonneg _
    have ha0 : (0 : Int) ≤ (a : Int) := Int.natCast_nonneg _
    have hak' : (a : Int) ≤ (k : Int) := by omega
    have hroq := Lib.hid (hrow.lt)
    have hbosz := hbo.size
    by_cases hlt : k < s.size
    · have hk1 : (k : Int) < (s.size : Int) := by omega
      have hk2 : (k : Int) ≤ (s.size : Int) := by omega
      by_cases hb : (s[k]'hlt).toNat = 47
      · have g1 : (((s[k]'hlt).toNat : Int) == 47) = true := beq_iff_eq.2 (by omega)
        have g1' : ((s[k]'hlt).toNat == 47) = true := beq_iff_eq.2 hb
        have hnx := Lib.hid (he.out.trans (by rw [sp_blank hlt hb, show L ++ (a, k) :: spB s (s.size - (k + 1)) (k + 1) (k + 1) = (L ++ [(a, k)]) ++ spB s (s.size - (k + 1)) (k + 1) (k + 1) by simp]))
        have hsl := fun W => run_slice_string (P := Tryd.prog) W 9 s .i64 .i64 (a : Int) (k : Int) Tryd.underlying9 (by omega) (by omega) (by omega)
        rw [show (k : Int).toNat = k from rfl, show (a : Int).toNat = a from rfl] at hsl
        have h63 : L.length + 1 ≤ maxLen := by unfold maxLen; omega
        have hby : (L.length + 1) * 16 ≤ 140737488355328 := by omega
        replace hb := Lib.hid hb
        generalize hln : L.length = ln at *
        go_wp2_with (at_builtin; refine wpList_append_own _ rfl _ _ 22 rfl w.heap.size 9 i0 _ 1 16 Tryd.underlying22 hi hz0 hz1 hz2 rfl (by decide) _ _ _ rfl (hrow.alloc _) ⟨wr.heap.size, 0, none⟩ 1 1 [.string (s.extract a k)] rfl rfl ?c1 ?c2 h63 hby ?c5 ?_)
        case c1 =>
          intro j u hj
          match j, hj with
          | 0, hj => cases hj; simp [Addr.add]
          | j + 1, hj => simp at hj
        case c2 =>
          intro u hu
          simp only [List.mem_cons, List.not_mem_nil, or_false] at hu
          subst hu
          rfl
        case c5 =>
          simp
          omega
        intro v' w3 hown3 hgr3 hnil
        have hrel3 : Hid (w3.ownsRow w.heap.size 9 1 v' (L ++ [(a, k)]).length (((L ++ [(a, k)]).map (extB s)).flatMap strC) ∧ Below w.heap.size w w3 ∧ (L ++ [(a, k)]).length ≤ k + 1) := Lib.hid (by
          refine ⟨?_, Below.grown (hbo.alloc (by omega) _) hgr3 (by simp; omega) (fun j hj => (hroq.out j hj).1), by simp; omega⟩
          rw [List.length_append, List.map_append, List.flatMap_append, hln]
          exact hown3)
        clear hown3 hgr3 hnil
        go_wp2
        go_roundw
        case rel => exact ⟨k + 1, k + 1, L ++ [(a, k)], by omega, by omega, by go_num, by go_num, hrel3.out.1, hrel3.out.2.2, hrel3.out.2.1, hnx.out⟩
        case measure => simp [intOf]; omega
      · have g1 : (((s[k]'hlt).toNat : Int) == 47) = false := beq_eq_false_iff_ne.2 (by omega)
        have g1' : ((s[k]'hlt).toNat == 47) = false := beq_eq_false_iff_ne.2 hb
        have hnx := Lib.hid (he.out.trans (by rw [sp_more hlt hb]))
        replace hb := Lib.hid hb
        go_wp2
        go_roundw
        case rel => exact ⟨k + 1, a, L, by omega, by omega, by go_num, rfl, hrow, by omega, hbo, hnx.out⟩
        case measure => simp [intOf]; omega
    · obtain rfl : k = s.size := by omega
      obtain ⟨hf1, hf2⟩ := hfin.out L a (he.out.trans (by rw [sp_end]))
      replace hf1 := Lib.hid hf1
      replace hf2 := Lib.hid hf2
      have h63 : L.length + 1 ≤ maxLen := by unfold maxLen; omega
      have hby : (L.length + 1) * 16 ≤ 140737488355328 := by omega
      generalize hln : L.length = ln at *
      go_wp2_with (at_builtin; refine wpList_append_own _ rfl _ _ 22 rfl w.heap.size 9 i0 _ 1 16 Tryd.underlying22 hi hz0 hz1 hz2 rfl (by decide) _ _ _ rfl (hrow.alloc _) ⟨wr.heap.size, 0, none⟩ 1 1 [.string (s.extract a s.size)] rfl rfl ?c1 ?c2 h63 hby ?c5 ?_)
      case c1 =>
        intro j u hj
        match j, hj with
        | 0, hj => cases hj; simp [Addr.add]
        | j + 1, hj => simp at hj
      case c2 =>
        intro u hu
        simp only [List.mem_cons, List.not_mem_nil, or_false] at hu
        subst hu
        rfl
      case c5 =>
        simp
        omega
      intro v' w3 hown3 hgr3 hnil
      rw [← hf1.out] at hown3
      obtain ⟨A, c, rfl, hO⟩ := owns_strs hf2.out hown3
      have hb3 : Below w.heap.size w w3 := Below.grown (hbo.alloc (by omega) _) hgr3 (by simp; omega) (fun j hj => (hroq.out j hj).1)
      replace hO := Lib.hid hO
      clear hown3 hgr3 hnil
      go_wp2
      go_ret
      exact ⟨A, ln + 1, c, rfl, by omega, hO.out, hb3⟩

def spl : List UInt8 → List (List UInt8)
  | [] => [[]]
  | c :: l => if c.toNat = 47 then [] :: spl l else match spl l with
    | [] => [[c]]
    | h :: t => (c :: h) :: t
def consHead (p : List UInt8) : List (List UInt8) → List (List UInt8)
  | [] => [p]
  | h :: t => (p ++ h) :: t
theorem spl_ne : ∀ l, spl l ≠ []
  | [] => by simp [spl]
  | c :: l => by
    unfold spl
    split
    · simp
    · split <;> simp
theorem spl_more {c : UInt8} {l : List UInt8} (h : ¬ c.toNat = 47) : spl (c :: l) = consHead [c] (spl l) := by
  simp only [spl]
  rw [if_neg h]
  cases spl l <;> rfl
theorem spl_slash {c : UInt8} {l : List UInt8} (h : c.toNat = 47) : spl (c :: l) = [] :: spl l := by
  simp only [spl]
  rw [if_pos h]
theorem consHead_nil {L : List (List UInt8)} (h : L ≠ []) : consHead [] L = L := by
  cases L with
  | nil => exact absurd rfl h
  | cons a t => rfl
theorem consHead_app (p q : List UInt8) (L : List (List UInt8)) : consHead p (consHead q L) = consHead (p ++ q) L := by cases L <;> simp [consHead]
theorem ext_data (s : ByteArray) (a k : Nat) (h : a ≤ k) (hk : k ≤ s.size) : (s.extract a k).data.toList = (s.data.toList.take k).drop a := by
  rw [ByteArray.data_extract, Array.toList_extract]
  simp only [List.extract]
  rw [List.drop_take]
theorem spB_spl (s : ByteArray) : ∀ (f k a : Nat), f = s.size - k → k ≤ s.size → a ≤ k → ((spB s f k a).map (extB s)).map (·.data.toList) = consHead ((s.data.toList.take k).drop a) (spl (s.data.toList.drop k))
  | 0, k, a, hf, hk, ha => by
    obtain rfl : k = s.size := by omega
    have hd : s.data.toList.drop s.size = [] := List.drop_of_length_le (by rw [size_len]; exact Nat.le_refl _)
    rw [hd]
    simp only [spB, spl, consHead, extB, List.map_cons, List.map_nil, List.append_nil]
    rw [ext_data s a s.size ha hk]
  | f + 1, k, a, hf, hk, ha => by
    have hlt : k < s.size := by omega
    rw [bytes_drop s hlt]
    by_cases hb : (s[k]'hlt).toNat = 47
    · have h1 : spB s (f + 1) k a = (a, k) :: spB s f (k + 1) (k + 1) := by
        simp only [spB]
        rw [dif_pos hlt, if_pos hb]
      rw [h1, spl_slash hb, List.map_cons, List.map_cons, spB_spl s f (k + 1) (k + 1) (by omega) (by omega) (Nat.le_refl _)]
      have h2 : (s.data.toList.take (k + 1)).drop (k + 1) = [] := List.drop_of_length_le (by rw [List.length_take]; omega)
      rw [h2, consHead_nil (spl_ne _)]
      simp only [consHead, extB, List.append_nil]
      rw [ext_data s a k ha (by omega)]
    · have h1 : spB s (f + 1) k a = spB s f (k + 1) a := by
        simp only [spB]
        rw [dif_pos hlt, if_neg hb]
      rw [h1, spl_more hb, spB_spl s f (k + 1) a (by omega) (by omega) (by omega), consHead_app]
      congr 1
      have hat := bytes_at s hlt
      obtain ⟨q1, q2⟩ := List.getElem?_eq_some_iff.1 hat
      rw [List.take_succ_eq_append_getElem q1, q2, List.drop_append_of_le_length (by rw [List.length_take]; omega)]
theorem idx_mem {c : UInt8} : ∀ {l : List UInt8}, c ∈ l → 0 ≤ Lib.indexByte l c
  | [], h => by cases h
  | b :: l, h => by
    unfold Lib.indexByte
    by_cases e : b = c
    · simp [e]
    · have hl : c ∈ l := by
        rcases List.mem_cons.1 h with h1 | h1
        · exact absurd h1.symm e
        · exact h1
      have ih := idx_mem hl
      rw [if_neg (by simpa using e), if_neg (by simp; omega)]
      omega
theorem splitK_spl (c : UInt8) (hc : c.toNat = 47) : ∀ l : List UInt8, Lib.splitK [c] 0 (l.count c) l = spl l
  | [] => by simp [Lib.splitK, spl]
  | b :: l => by
    have ih := splitK_spl c hc l
    by_cases h : b = c
    · subst h
      rw [spl_slash hc, List.count_cons_self]
      simp only [Lib.splitK, Lib.index_one, Lib.indexByte]
      simp [ih]
    · have hb : ¬ b.toNat = 47 := fun e => h (UInt8.toNat_inj.1 (by omega))
      rw [spl_more hb, List.count_cons_of_ne h]
      cases hk : l.count c with
      | zero =>
        rw [hk] at ih
        rw [← ih]
        simp [Lib.splitK, consHead]
      | succ k =>
        rw [hk] at ih
        rw [← ih]
        simp only [Lib.splitK, Lib.index_one]
        have hm : c ∈ l := List.count_pos_iff.1 (by omega)
        have hge := idx_mem hm
        have e0 : Lib.indexByte (b :: l) c = Lib.indexByte l c + 1 := by
          rw [Lib.indexByte, if_neg (by simpa using h), if_neg (by simp; omega)]
        rw [e0]
        obtain ⟨n, hn⟩ : ∃ n : Nat, Lib.indexByte l c = n := ⟨(Lib.indexByte l c).toNat, by omega⟩
        rw [hn, if_neg (by first | (simp; done) | (simp; omega)), if_neg (by first | (simp; done) | (simp; omega))]
        have e1 : ((n : Int) + 1).toNat = n + 1 := by omega
        rw [e1]
        simp [consHead, Nat.add_right_comm]
theorem list_bytes {a b : List ByteArray} (h : a.map (·.data.toList) = b.map (·.data.toList)) : a = b := by
  refine List.ext_getElem? fun i => ?_
  have h1 : (a.map (·.data.toList))[i]? = (b.map (·.data.toList))[i]? := by rw [h]
  simp only [List.getElem?_map] at h1
  cases ha : a[i]? with
  | none =>
    rw [ha] at h1
    cases hb : b[i]? with
    | none => rfl
    | some y => rw [hb] at h1; cases h1
  | some x =>
    rw [ha] at h1
    cases hb : b[i]? with
    | none => rw [hb] at h1; cases h1
    | some y =>
      rw [hb] at h1
      simp only [Option.map_some, Option.some.injEq] at h1
      rw [show x = y from ByteArray.ext (Array.toList_inj.1 h1)]
theorem split_same (s : ByteArray) : Lib.splitB ⟨#[47]⟩ 0 (Lib.countB s ⟨#[47]⟩) s = splitR s := by
  refine list_bytes ?_
  rw [Lib.splitB_data]
  unfold splitR
  rw [spB_spl s s.size 0 0 (by omega) (by omega) (Nat.le_refl _)]
  have h1 : Lib.countB s ⟨#[47]⟩ = s.data.toList.count 47 := Lib.count_one 47 s.data.toList
  rw [h1]
  have h2 : (s.data.toList.take 0).drop 0 = [] := by simp
  rw [h2, consHead_nil (spl_ne _), List.drop_zero]
  exact splitK_spl 47 (by decide) s.data.toList
theorem gen_any (s : ByteArray) (w : World) (hs : s.size ≤ 1048576) :
    Calls Tryd.prog 20 #[.string s, .string ⟨#[47]⟩, .int .i64 0, .int .i64 (-1)] w fun e w' => e = .returned (.slice (some ⟨w.heap.size, 0, none⟩) (splitR s).length (splitR s).length) ∧ w' = w.alloc (.cells ((splitR s).map Value.string).toArray 9) := by
  have hle := Lib.countB_le ⟨#[47]⟩ (by decide) s.size s (Nat.le_refl _)
  have hlen := Lib.splitB_all ⟨#[47]⟩ (by decide) 0 _ s rfl
  have c := Any.strings_genSplit_core Tryd.lays221 (by kernel_rfl) s ⟨#[47]⟩ 0 (-1) (Lib.countB s ⟨#[47]⟩ + 1) w (by omega) (by decide) (Nat.zero_le _)
    (fun x c hx => by
      have := Tryd.strings_Index_one x 47 (w.alloc (.cells c 9))
      rw [show Lib.indexByte x.data.toList 47 = Lib.indexB x ⟨#[47]⟩ from (Lib.index_one _ _).symm] at this
      exact this)
    (by
      have := Tryd.strings_Count_one s 47 w
      rw [show Lib.countByte s.data.toList 47 = Lib.countB s ⟨#[47]⟩ from (Lib.count_one 47 s.data.toList).symm] at this
      exact this) (by decide) (by decide) (by rw [if_pos (by decide)]; omega)
  rw [Nat.add_sub_cancel, split_same] at c
  rw [split_same] at hlen
  rw [← hlen] at c
  have e2 : Lib.cellsOf (splitR s) (splitR s).length = ((splitR s).map Value.string).toArray := Lib.cellsOf_full _
  rw [e2] at c
  exact c
theorem splitS_any (s : ByteArray) (w : World) (hs : s.size ≤ 1048576) :
    Calls Tryd.prog 12 #[.string s, .string ⟨#[47]⟩] w fun e w' => e = .returned (.slice (some ⟨w.heap.size, 0, none⟩) (splitR s).length (splitR s).length) ∧ w' = w.alloc (.cells ((splitR s).map Value.string).toArray 9) := by
  have hq := Lib.hid (gen_any s w hs)
  go_enter Tryd.func12, Tryd.ntmps12
  go_wp2_with fail
  refine hq.out.mono ?_
  rintro e w1 ⟨rfl, rfl⟩
  go_wp2
  go_ret
  exact ⟨rfl, rfl⟩
end Go.Proofs.YticggclpaalhgaaDoor
