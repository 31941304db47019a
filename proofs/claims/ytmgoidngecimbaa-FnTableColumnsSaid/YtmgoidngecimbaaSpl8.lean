/- Parts of a text between bytes of one value: the model's function. -/
import Derived.Test.YtmgoidngecimbaaOwn8
namespace Go.Proofs.Ytmgoidngecimbaa
open Go.RowKit Go.ChangeShapes Go.WideShapes Go.Deep
set_option linter.unusedVariables false
set_option linter.unusedSimpArgs false

theorem size_len8 (s : ByteArray) : s.data.toList.length = s.size := rfl
theorem bytes_at8 (s : ByteArray) {k : Nat} (h : k < s.size) : s.data.toList[k]? = some (s[k]'h) := by
  rw [List.getElem?_eq_getElem (by simpa using h)]
  rfl
theorem bytes_drop8 (s : ByteArray) {k : Nat} (h : k < s.size) : s.data.toList.drop k = (s[k]'h) :: s.data.toList.drop (k + 1) := by
  rw [List.drop_eq_getElem_cons (by simpa using h)]
  rfl
/-- The parts between blanks, as places: from 'pos' on, f bytes further, the part begun at 'a'. -/
def spB8 (d : Nat) (s : ByteArray) : Nat → Nat → Nat → List (Nat × Nat)
  | 0, pos, a => [(a, pos)]
  | f + 1, pos, a => if h : pos < s.size then (if (s[pos]'h).toNat = d then (a, pos) :: spB8 d s f (pos + 1) (pos + 1) else spB8 d s f (pos + 1) a) else [(a, pos)]
def ext8 (s : ByteArray) (x : Nat × Nat) : ByteArray := s.extract x.1 x.2
def split8 (d : Nat) (s : ByteArray) : List ByteArray := (spB8 d s s.size 0 0).map (ext8 s)
theorem sp8_blank {d : Nat} {s : ByteArray} {k a : Nat} (hk : k < s.size) (h : (s[k]'hk).toNat = d) : spB8 d s (s.size - k) k a = (a, k) :: spB8 d s (s.size - (k + 1)) (k + 1) (k + 1) := by
  rw [show s.size - k = (s.size - (k + 1)) + 1 by omega, spB8, dif_pos hk, if_pos h]
theorem sp8_more {d : Nat} {s : ByteArray} {k a : Nat} (hk : k < s.size) (h : ¬ (s[k]'hk).toNat = d) : spB8 d s (s.size - k) k a = spB8 d s (s.size - (k + 1)) (k + 1) a := by
  rw [show s.size - k = (s.size - (k + 1)) + 1 by omega, spB8, dif_pos hk, if_neg h]
theorem sp8_end {d : Nat} {s : ByteArray} {a : Nat} : spB8 d s (s.size - s.size) s.size a = [(a, s.size)] := by
  rw [Nat.sub_self, spB8]

set_option maxRecDepth 100000 in
set_option maxHeartbeats 3200000 in
theorem split8_spec (d : Nat) (s : ByteArray) (w : World) (hs : s.size ≤ 1048576) :
    Calls Try.prog 76 #[.string s, .int .u8 (d : Int)] w fun e w' => ∃ A n c, e = .returned (.slice A n c) ∧ n ≤ 1048577 ∧ OStrs w' w.heap.size A n (split8 d s) ∧ Below w.heap.size w w' := by
  obtain ⟨i0, hi, hz0, hz1, hz2⟩ := info_parts Try.infoStr
  have hfin : Hid (∀ L a, spB8 d s s.size 0 0 = L ++ [(a, s.size)] → (split8 d s).flatMap strC = (L.map (ext8 s)).flatMap strC ++ [.string (s.extract a s.size)] ∧ (split8 d s).length = L.length + 1) := Lib.hid fun L a h => by
    unfold split8
    rw [h]
    simp [strC, ext8]
  go_enter Try.func76, Try.ntmps76
  go_wp2
  have hown : (w.alloc (.cells #[] 9)).ownsRow w.heap.size 9 1 (.slice (some ⟨w.heap.size, 0, none⟩) 0 0) 0 [] := by
    have := World.ownsRow_lit (w := w) (e := 9) (base := w.heap.size) (size := 1) #[] 0 (Nat.le_refl _) (by simp [maxLen]) (by simp)
    simpa using this
  have hbs := below_a1 w (.cells #[] 9)
  generalize hws : w.alloc (.cells #[] 9) = ws at *
  replace hown := Lib.hid hown
  clear hws
  go_loopw [5, 6, 7] (fun v fv i wr => ∃ (k a : Nat) (L : List (Nat × Nat)), k ≤ s.size ∧ a ≤ k ∧ i = .int .i64 k ∧ fv = .int .i64 a ∧ wr.ownsRow w.heap.size 9 1 v L.length ((L.map (ext8 s)).flatMap strC) ∧ L.length ≤ k ∧ Below w.heap.size w wr ∧ spB8 d s s.size 0 0 = L ++ spB8 d s (s.size - k) k a) (fun _ _ i _ => s.size - (intOf i).toNat)
  case atStart => exact ⟨0, 0, [], by omega, by omega, rfl, rfl, hown.out, by simp, hbs, rfl⟩
  case round =>
    obtain ⟨k, a, L, hk, hak, rfl, rfl, hrow, hL, hbo, he⟩ := hrel
    replace he := Lib.hid he
    have hk0 : (0 : Int) ≤ (k : Int) := Int.natCast_nonneg _
    have ha0 : (0 : Int) ≤ (a : Int) := Int.natCast_nonneg _
    have hak' : (a : Int) ≤ (k : Int) := by omega
    have hroq := Lib.hid (hrow.lt)
    have hbosz := hbo.size
    by_cases hlt : k < s.size
    · have hk1 : (k : Int) < (s.size : Int) := by omega
      have hk2 : (k : Int) ≤ (s.size : Int) := by omega
      by_cases hb : (s[k]'hlt).toNat = d
      · have g1 : (((s[k]'hlt).toNat : Int) == (d : Int)) = true := beq_iff_eq.2 (by omega)
        have g1' : ((s[k]'hlt).toNat == d) = true := beq_iff_eq.2 hb
        have hnx := Lib.hid (he.out.trans (by rw [sp8_blank hlt hb, show L ++ (a, k) :: spB8 d s (s.size - (k + 1)) (k + 1) (k + 1) = (L ++ [(a, k)]) ++ spB8 d s (s.size - (k + 1)) (k + 1) (k + 1) by simp]))
        have hsl := fun W => run_slice_string (P := Try.prog) W 9 s .i64 .i64 (a : Int) (k : Int) Try.underlying9 (by omega) (by omega) (by omega)
        rw [show (k : Int).toNat = k from rfl, show (a : Int).toNat = a from rfl] at hsl
        have h63 : L.length + 1 ≤ maxLen := by unfold maxLen; omega
        have hby : (L.length + 1) * 16 ≤ 140737488355328 := by omega
        replace hb := Lib.hid hb
        generalize hln : L.length = ln at *
        go_wp2_with (at_builtin; refine wpList_append_own _ rfl _ _ 27 rfl w.heap.size 9 i0 _ 1 16 Try.underlying27 hi hz0 hz1 hz2 rfl (by decide) _ _ _ rfl (hrow.alloc _) ⟨wr.heap.size, 0, none⟩ 1 1 [.string (s.extract a k)] rfl rfl ?c1 ?c2 h63 hby ?c5 ?_)
        case c1 =>
          intro j u hj
          match j, hj with
          | 0, hj => cases hj; simp [Addr.add]
          | j + 1, hj => simp at hj
        case c2 =>
          intro u hu
          simp only [List.mem_cons, List.not_mem_nil, or_false] at hu
          subst hu
          rfl
        case c5 =>
          simp
          omega
        intro v' w3 hown3 hgr3 hnil
        have hrel3 : Hid (w3.ownsRow w.heap.size 9 1 v' (L ++ [(a, k)]).length (((L ++ [(a, k)]).map (ext8 s)).flatMap strC) ∧ Below w.heap.size w w3 ∧ (L ++ [(a, k)]).length ≤ k + 1) := Lib.hid (by
          refine ⟨?_, Below.grown (hbo.alloc (by omega) _) hgr3 (by simp; omega) (fun j hj => (hroq.out j hj).1), by simp; omega⟩
          rw [List.length_append, List.map_append, List.flatMap_append, hln]
          exact hown3)
        clear hown3 hgr3 hnil
        go_wp2
        go_roundw
        case rel => exact ⟨k + 1, k + 1, L ++ [(a, k)], by omega, by omega, by go_num, by go_num, hrel3.out.1, hrel3.out.2.2, hrel3.out.2.1, hnx.out⟩
        case measure => simp [intOf]; omega
      · have g1 : (((s[k]'hlt).toNat : Int) == (d : Int)) = false := beq_eq_false_iff_ne.2 (by omega)
        have g1' : ((s[k]'hlt).toNat == d) = false := beq_eq_false_iff_ne.2 hb
        have hnx := Lib.hid (he.out.trans (by rw [sp8_more hlt hb]))
        replace hb := Lib.hid hb
        go_wp2
        go_roundw
        case rel => exact ⟨k + 1, a, L, by omega, by omega, by go_num, rfl, hrow, by omega, hbo, hnx.out⟩
        case measure => simp [intOf]; omega
    · obtain rfl : k = s.size := by omega
      obtain ⟨hf1, hf2⟩ := hfin.out L a (he.out.trans (by rw [sp8_end]))
      replace hf1 := Lib.hid hf1
      replace hf2 := Lib.hid hf2
      have h63 : L.length + 1 ≤ maxLen := by unfold maxLen; omega
      have hby : (L.length + 1) * 16 ≤ 140737488355328 := by omega
      generalize hln : L.length = ln at *
      go_wp2_with (at_builtin; refine wpList_append_own _ rfl _ _ 27 rfl w.heap.size 9 i0 _ 1 16 Try.underlying27 hi hz0 hz1 hz2 rfl (by decide) _ _ _ rfl (hrow.alloc _) ⟨wr.heap.size, 0, none⟩ 1 1 [.string (s.extract a s.size)] rfl rfl ?c1 ?c2 h63 hby ?c5 ?_)
      case c1 =>
        intro j u hj
        match j, hj with
        | 0, hj => cases hj; simp [Addr.add]
        | j + 1, hj => simp at hj
      case c2 =>
        intro u hu
        simp only [List.mem_cons, List.not_mem_nil, or_false] at hu
        subst hu
        rfl
      case c5 =>
        simp
        omega
      intro v' w3 hown3 hgr3 hnil
      rw [← hf1.out] at hown3
      obtain ⟨A, c, rfl, hO⟩ := owns_s8 hf2.out hown3
      have hb3 : Below w.heap.size w w3 := Below.grown (hbo.alloc (by omega) _) hgr3 (by simp; omega) (fun j hj => (hroq.out j hj).1)
      replace hO := Lib.hid hO
      clear hown3 hgr3 hnil
      go_wp2
      go_ret
      exact ⟨A, ln + 1, c, rfl, by omega, hO.out, hb3⟩

def spl8 (d : Nat) : List UInt8 → List (List UInt8)
  | [] => [[]]
  | c :: l => if c.toNat = d then [] :: spl8 d l else match spl8 d l with
    | [] => [[c]]
    | h :: t => (c :: h) :: t
def consHead8 (p : List UInt8) : List (List UInt8) → List (List UInt8)
  | [] => [p]
  | h :: t => (p ++ h) :: t
theorem spl8_ne (d : Nat) : ∀ l, spl8 d l ≠ []
  | [] => by simp [spl8]
  | c :: l => by
    unfold spl8
    split
    · simp
    · split <;> simp
theorem spl8_more {d : Nat} {c : UInt8} {l : List UInt8} (h : ¬ c.toNat = d) : spl8 d (c :: l) = consHead8 [c] (spl8 d l) := by
  simp only [spl8]
  rw [if_neg h]
  cases spl8 d l <;> rfl
theorem spl8_dot {d : Nat} {c : UInt8} {l : List UInt8} (h : c.toNat = d) : spl8 d (c :: l) = [] :: spl8 d l := by
  simp only [spl8]
  rw [if_pos h]
theorem consHead8_nil {L : List (List UInt8)} (h : L ≠ []) : consHead8 [] L = L := by
  cases L with
  | nil => exact absurd rfl h
  | cons a t => rfl
theorem consHead8_app (p q : List UInt8) (L : List (List UInt8)) : consHead8 p (consHead8 q L) = consHead8 (p ++ q) L := by cases L <;> simp [consHead8]
theorem ext8_data (s : ByteArray) (a k : Nat) (h : a ≤ k) (hk : k ≤ s.size) : (s.extract a k).data.toList = (s.data.toList.take k).drop a := by
  rw [ByteArray.data_extract, Array.toList_extract]
  simp only [List.extract]
  rw [List.drop_take]
theorem spB8_spl (d : Nat) (s : ByteArray) : ∀ (f k a : Nat), f = s.size - k → k ≤ s.size → a ≤ k → ((spB8 d s f k a).map (ext8 s)).map (·.data.toList) = consHead8 ((s.data.toList.take k).drop a) (spl8 d (s.data.toList.drop k))
  | 0, k, a, hf, hk, ha => by
    obtain rfl : k = s.size := by omega
    have hd : s.data.toList.drop s.size = [] := List.drop_of_length_le (by rw [size_len8]; exact Nat.le_refl _)
    rw [hd]
    simp only [spB8, spl8, consHead8, ext8, List.map_cons, List.map_nil, List.append_nil]
    rw [ext8_data s a s.size ha hk]
  | f + 1, k, a, hf, hk, ha => by
    have hlt : k < s.size := by omega
    rw [bytes_drop8 s hlt]
    by_cases hb : (s[k]'hlt).toNat = d
    · have h1 : spB8 d s (f + 1) k a = (a, k) :: spB8 d s f (k + 1) (k + 1) := by
        simp only [spB8]
        rw [dif_pos hlt, if_pos hb]
      rw [h1, spl8_dot hb, List.map_cons, List.map_cons, spB8_spl d s f (k + 1) (k + 1) (by omega) (by omega) (Nat.le_refl _)]
      have h2 : (s.data.toList.take (k + 1)).drop (k + 1) = [] := List.drop_of_length_le (by rw [List.length_take]; omega)
      rw [h2, consHead8_nil (spl8_ne _ _)]
      simp only [consHead8, ext8, List.append_nil]
      rw [ext8_data s a k ha (by omega)]
    · have h1 : spB8 d s (f + 1) k a = spB8 d s f (k + 1) a := by
        simp only [spB8]
        rw [dif_pos hlt, if_neg hb]
      rw [h1, spl8_more hb, spB8_spl d s f (k + 1) a (by omega) (by omega) (by omega), consHead8_app]
      congr 1
      have hat := bytes_at8 s hlt
      obtain ⟨q1, q2⟩ := List.getElem?_eq_some_iff.1 hat
      rw [List.take_succ_eq_append_getElem q1, q2, List.drop_append_of_le_length (by rw [List.length_take]; omega)]
end Go.Proofs.Ytmgoidngecimbaa
