/- Justified lines: pure, and the model's functions. -/
import Derived.Test.YtcaojaaooadeaaaLn8
import Derived.Test.YtcaojaaooadeaaaTl0
import Derived.Test.YtcaojaaooadeaaaRak8
namespace Go.Proofs.Ytcaojaaooadeaaa
open Go.RowKit Go.ChangeShapes Go.WideShapes Go.Deep
set_option linter.unusedVariables false
set_option linter.unusedSimpArgs false

def gp9 (room g i : Nat) : Nat := room / g + (if i ≤ room % g then 1 else 0)
def restT (room g : Nat) : Nat → List ByteArray → List UInt8
  | _, [] => []
  | i, x :: r => List.replicate (gp9 room g i) 32 ++ x.data.toList ++ restT room g (i + 1) r
def headT : List ByteArray → List UInt8
  | [] => []
  | x :: _ => x.data.toList
def partT (room g : Nat) (ws : List ByteArray) (k : Nat) : List UInt8 := headT ws ++ restT room g 1 ((ws.drop 1).take (k - 1))
/-- A justified line, of one word at least. -/
def setL (W : Nat) (ws : List ByteArray) : List UInt8 := if ws.length = 1 then headT ws ++ List.replicate (W - longN ws) 32 else partT (W - sizN ws) (ws.length - 1) ws ws.length
def setB (W : Nat) (ws : List ByteArray) : ByteArray := ⟨(setL W ws).toArray⟩
theorem rest_snoc (room g : Nat) : ∀ (l : List ByteArray) (i : Nat) (x : ByteArray), restT room g i (l ++ [x]) = restT room g i l ++ (List.replicate (gp9 room g (i + l.length)) 32 ++ x.data.toList)
  | [], i, x => by simp [restT]
  | y :: r, i, x => by
    simp only [List.cons_append, restT, rest_snoc room g r, List.length_cons, List.append_assoc]
    rw [show i + 1 + r.length = i + (r.length + 1) by omega]
theorem part_one {room g : Nat} {ws : List ByteArray} {x : ByteArray} (h : ws[0]? = some x) : partT room g ws 1 = x.data.toList := by
  match ws, h with
  | y :: r, h => simp at h; subst h; simp [partT, headT, restT]
theorem part_next {room g : Nat} {ws : List ByteArray} {k : Nat} {x : ByteArray} (h : ws[k]? = some x) (hk : 1 ≤ k) : partT room g ws (k + 1) = partT room g ws k ++ (List.replicate (gp9 room g k) 32 ++ x.data.toList) := by
  have h1 : (ws.drop 1)[k - 1]? = some x := by rw [List.getElem?_drop, show 1 + (k - 1) = k by omega]; exact h
  have hl : ((ws.drop 1).take (k - 1)).length = k - 1 := by
    have := (List.getElem?_eq_some_iff.1 h1).1
    rw [List.length_take]; omega
  rw [partT, Nat.add_sub_cancel, show k = (k - 1) + 1 by omega, take8 h1, rest_snoc, hl, partT, Nat.add_sub_cancel, show 1 + (k - 1) = k - 1 + 1 by omega, List.append_assoc]
theorem gp9_le (room g i : Nat) : gp9 room g i ≤ room + 1 := by
  have := Nat.div_le_self room g
  unfold gp9
  split <;> omega
theorem part_len {room g : Nat} {ws : List ByteArray} (hr : room ≤ 1000) (hs : ∀ x ∈ ws, x.size ≤ 1000) : ∀ k, k ≤ ws.length → (partT room g ws k).length ≤ 3000 * (k + 1)
  | 0, _ => by
    match ws, hs with
    | [], _ => simp [partT, headT, restT]
    | y :: r, hs => have := hs y (by simp); have h2 : y.data.toList.length = y.size := rfl; simp only [partT, headT, restT, List.drop_succ_cons, List.take_zero, Nat.zero_sub, List.append_nil, h2]; omega
  | 1, h => by
    have hx : ws[0]? = some (ws[0]'(by omega)) := List.getElem?_eq_getElem _
    rw [part_one hx]
    have := hs _ (List.mem_of_getElem? hx)
    have h2 : (ws[0]'(by omega)).data.toList.length = (ws[0]'(by omega)).size := rfl
    omega
  | k + 2, h => by
    have hx : ws[k + 1]? = some (ws[k + 1]'(by omega)) := List.getElem?_eq_getElem _
    have ih := part_len (g := g) hr hs (k + 1) (by omega)
    have h1 := hs _ (List.mem_of_getElem? hx)
    have h2 : (ws[k + 1]'(by omega)).data.toList.length = (ws[k + 1]'(by omega)).size := rfl
    have h3 := gp9_le room g (k + 1)
    rw [part_next hx (by omega)]
    simp only [List.length_append, List.length_replicate]
    omega
theorem gp9_add (left g i : Nat) (hg : 0 < g) : gp9 (left + g) g i = 1 + left / g + (if i ≤ left % g then 1 else 0) := by
  unfold gp9
  rw [Nat.add_div_right _ hg, Nat.add_mod_right]
  omega
theorem bytes_eq9 {a b : ByteArray} (h : a.data.toList = b.data.toList) : a = b := by
  cases a; cases b
  simp only [ByteArray.mk.injEq]
  exact Array.ext' h
theorem setB_one {W : Nat} {x : ByteArray} : setB W [x] = x ++ blanksB (W - x.size) := by
  refine bytes_eq9 ?_
  simp [setB, setL, headT, longN, sizN, blanksB]
theorem partB_next {room g : Nat} {ws : List ByteArray} {k : Nat} {x : ByteArray} (h : ws[k]? = some x) (hk : 1 ≤ k) : (⟨(partT room g ws (k + 1)).toArray⟩ : ByteArray) = ⟨(partT room g ws k).toArray⟩ ++ (blanksB (gp9 room g k) ++ x) := by
  refine bytes_eq9 ?_
  rw [part_next h hk]
  simp [blanksB]
theorem partB_one {room g : Nat} {ws : List ByteArray} {x : ByteArray} (h : ws[0]? = some x) : (⟨(partT room g ws 1).toArray⟩ : ByteArray) = x := bytes_eq9 (by rw [part_one h])
/-- The line whose blanks are single. -/
theorem rest_single : ∀ (l : List ByteArray) (g i : Nat), 0 < g → 1 ≤ i → restT g g i l = l.flatMap fun x => 32 :: x.data.toList
  | [], _, _, _, _ => rfl
  | x :: r, g, i, hg, hi => by
    have h1 : gp9 g g i = 1 := by
      unfold gp9
      rw [Nat.div_self hg, Nat.mod_self, if_neg (by omega)]
    simp [restT, h1, rest_single r g (i + 1) hg (by omega)]
theorem join_single : ∀ (x : ByteArray) (r : List ByteArray), Lib.join ((x :: r).map (·.data.toList)) [32] = x.data.toList ++ r.flatMap fun y => 32 :: y.data.toList
  | x, [] => by simp [Lib.join, List.intercalate]
  | x, y :: r => by
    have ih := join_single y r
    simp only [Lib.join, List.intercalate, List.map_cons] at ih ⊢
    rw [List.intersperse_cons_cons, List.flatten_cons, List.flatten_cons, ih]
    simp
theorem setL_long (ws : List ByteArray) (h : 0 < ws.length) : setL (longN ws) ws = Lib.join (ws.map (·.data.toList)) [32] := by
  match ws, h with
  | [x], _ => rw [join_single]; simp [setL, headT]
  | x :: y :: r, _ =>
    rw [join_single, setL, if_neg (by simp)]
    have hl : longN (x :: y :: r) - sizN (x :: y :: r) = r.length + 1 := by rw [longN]; simp only [List.length_cons]; omega
    rw [hl]
    simp only [List.length_cons, Nat.add_sub_cancel, partT, headT, List.drop_succ_cons, List.drop_zero]
    rw [rest_single _ _ _ (by omega) (by omega), List.take_of_length_le (by simp)]
def slR (ws : List ByteArray) (wd : Int) : ByteArray × Int :=
  if okW ws wd = true then (if wd < (longN ws : Int) then (ByteArray.empty, 5) else if ws.length = 0 then (ByteArray.empty, 3) else (setB wd.toNat ws, 0)) else (ByteArray.empty, 1)
def stL (ws : List ByteArray) (W : Nat) (m : Nat) (k : Nat) (p : Nat × Nat) : ByteArray := if k + 1 < m then setB W (lineW ws p) else setB (longN (lineW ws p)) (lineW ws p)
def linesT (ws : List ByteArray) (W : Nat) (m : Nat) : Nat → List (Nat × Nat) → List ByteArray
  | _, [] => []
  | k, p :: r => stL ws W m k p :: linesT ws W m (k + 1) r
theorem linesT_snoc (ws : List ByteArray) (W m : Nat) : ∀ (l : List (Nat × Nat)) (k : Nat) (p : Nat × Nat), linesT ws W m k (l ++ [p]) = linesT ws W m k l ++ [stL ws W m (k + l.length) p]
  | [], k, p => rfl
  | q :: r, k, p => by
    simp only [List.cons_append, linesT, linesT_snoc ws W m r, List.length_cons]
    rw [show k + 1 + r.length = k + (r.length + 1) by omega]
theorem linesT_len (ws : List ByteArray) (W m : Nat) : ∀ (l : List (Nat × Nat)) (k : Nat), (linesT ws W m k l).length = l.length
  | [], _ => rfl
  | q :: r, k => by simp only [linesT, List.length_cons, linesT_len ws W m r]
theorem linesT_next {ws : List ByteArray} {W m : Nat} {ps : List (Nat × Nat)} {k : Nat} {p : Nat × Nat} (h : ps[k]? = some p) : linesT ws W m 0 (ps.take (k + 1)) = linesT ws W m 0 (ps.take k) ++ [stL ws W m k p] := by
  have := (List.getElem?_eq_some_iff.1 h).1
  rw [take8 h, linesT_snoc, List.length_take, Nat.min_eq_left (by omega), Nat.zero_add]
def stR (ws : List ByteArray) (wd : Int) (bs : List Int) : List ByteArray × Int :=
  if codeL ws wd bs = 0 then (linesT ws wd.toNat (pairsW ws.length bs).length 0 (pairsW ws.length bs), 0) else ([], codeL ws wd bs)

theorem blanks9_spec (n : Nat) (hn : n ≤ 1000) (w : World) : Calls Try.prog 63 #[.int .i64 (n : Int)] w fun e w' => e = .returned (.string (blanksB n)) ∧ Below w.heap.size w w' := by
  obtain ⟨i0, hi, hz0, hz1, hz2⟩ := info_parts Try.infoU8
  go_enter Try.func63, Try.ntmps63
  go_wp2
  go_loopw [0, 3] (fun i v wr => ∃ (k : Nat) (L : List UInt8), k ≤ n ∧ i = .int .i64 ((n - k : Nat) : Int) ∧ L = List.replicate k 32 ∧ L.length = k ∧ Below w.heap.size w wr ∧ OByt8 wr w.heap.size v L) (fun i _ _ => (intOf i).toNat)
  case atStart => exact ⟨0, [], by omega, rfl, rfl, rfl, below_a1 _ _, owns_new8u w⟩
  case round =>
    rename World => wr
    obtain ⟨k, L, hk, rfl, hL, hLk, hbw, hrow⟩ := hrel
    have hwz := hbw.size
    replace hL := Lib.hid hL
    have hLb : L.length ≤ 1000 := by omega
    replace hLk := Lib.hid hLk
    by_cases hlt : k < n
    · obtain ⟨d, hd, hd2⟩ : ∃ d, n - k = d + 1 ∧ n - (k + 1) = d := ⟨n - k - 1, by omega, by omega⟩
      rw [hd]
      have hk1 : (0 : Int) < ((d + 1 : Nat) : Int) := by omega
      have hw1 : IntKind.i64.wrap (((d + 1 : Nat) : Int) - 1) = (d : Int) := by rw [IntWalk.i64_in _ (by omega)]; omega
      have hw2 : IntKind.i64.wrap ((d : Int) + 1 - 1) = (d : Int) := by rw [IntWalk.i64_in _ (by omega)]; omega
      have hnx : Hid (L ++ [32] = List.replicate (k + 1) 32) := Lib.hid (by rw [hL.out, ← List.replicate_succ'])
      have hrl := Lib.hid hrow
      replace hd := Lib.hid hd
      clear hrow
      go_wp2_with (at_builtin; refine wpList_append_own _ rfl _ _ 68 rfl w.heap.size 5 i0 _ 1 1 Try.underlying68 hi hz0 hz1 hz2 rfl (by decide) _ _ _ rfl (hrl.out.alloc _) ⟨wr.heap.size, 0, none⟩ 1 1 [.int .u8 32] rfl rfl (news8 _ _ _) (one8u _) (by unfold maxLen; omega) (by omega) (by simp; omega) ?_)
      intro vqq wqq hownqq hgrqq hnilqq
      have hgqqq := grown_trans (grown_below (below_a1 wr _) _) hgrqq
      clear hgrqq hnilqq
      have hq : Hid (wqq.ownsRow w.heap.size 5 1 vqq ((L ++ [32]).length) ((L ++ [32]).map byteU8) ∧ Below w.heap.size w wqq) := Lib.hid ⟨by rw [byt_snoc _ 32 32 rfl, List.length_append]; exact hownqq, hbw.grown hgqqq hwz (fun j hj => owns_ge8 hrl.out hj)⟩
      clear hownqq hgqqq
      clear hrl
      go_wp2
      go_roundw
      case rel => exact ⟨k + 1, L ++ [32], by omega, by rw [hd2], hnx.out, by simp [hLk.out], hq.out.2, hq.out.1⟩
      case measure => simp [intOf]
    · obtain rfl : k = n := by omega
      rw [Nat.sub_self]
      have hconv := obyt8_conv hrow
      obtain ⟨_, A5, c5', rfl⟩ := obyt8_len hrow
      clear hrow
      go_wp2
      go_ret
      exact ⟨by rw [blanksB, ← hL.out]; rfl, hbw⟩
theorem quo9 (a g : Nat) : ((a : Int).tdiv (g : Int)) = ((a / g : Nat) : Int) := by simp
theorem rem9 (a g : Nat) : ((a : Int).tmod (g : Int)) = ((a % g : Nat) : Int) := (Int.ofNat_tmod a g).symm
end Go.Proofs.Ytcaojaaooadeaaa
