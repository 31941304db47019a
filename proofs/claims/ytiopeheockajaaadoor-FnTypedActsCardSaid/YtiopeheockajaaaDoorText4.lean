/- The text of acts: the model's function and the program's. -/
import Derived.Test.YtiopeheockajaaaDoorFol2
import Derived.Test.YtiopeheockajaaaDoorShelf
import Derived.OwnWalk
namespace Go.Proofs.YtiopeheockajaaaDoor
open Go.RowKit Go.ChangeShapes Go.WideShapes Go.Deep
set_option linter.unusedVariables false
set_option linter.unusedSimpArgs false

def actT (a : ActD) : ByteArray :=
  if a.kind = 0 then ⟨#[39]⟩ ++ a.letter else if a.kind = 1 then ⟨#[115, 112, 97, 99, 101]⟩ else if a.kind = 2 then ⟨#[98, 97, 99, 107]⟩ else if a.kind = 3 then ⟨#[104, 97, 108, 102]⟩ else if a.kind = 4 then ⟨#[102, 114, 101, 101]⟩ else ⟨#[114, 101, 116, 117, 114, 110]⟩
def bytesT (l : List ActD) : List UInt8 := Lib.join ((l.map actT).map (·.data.toList)) [32]
def textR4 (l : List ActD) : ByteArray := if actsOk l = true then ⟨(bytesT l).toArray⟩ else ⟨#[]⟩
theorem join_snoc (sep : List UInt8) : ∀ (l : List (List UInt8)) (x : List UInt8), Lib.join (l ++ [x]) sep = if l = [] then x else Lib.join l sep ++ (sep ++ x)
  | [], x => by simp [Lib.join, List.intercalate]
  | [a], x => by simp [Lib.join, List.intercalate]
  | a :: b :: l, x => by
    have h := join_snoc sep (b :: l) x
    rw [if_neg (by simp)] at h
    rw [if_neg (by simp)]
    have e : ∀ m : List (List UInt8), m ≠ [] → Lib.join (a :: m) sep = a ++ (sep ++ Lib.join m sep) := fun m hm => by
      cases m with
      | nil => exact absurd rfl hm
      | cons c m => simp [Lib.join, List.intercalate]
    rw [show (a :: b :: l) ++ [x] = a :: ((b :: l) ++ [x]) from rfl, e _ (by simp), h, e _ (by simp)]
    simp
theorem bytesT_step {l : List ActD} {k : Nat} {x : ActD} (h : l[k]? = some x) : bytesT (l.take (k + 1)) = if k = 0 then (actT x).data.toList else bytesT (l.take k) ++ (32 :: (actT x).data.toList) := by
  obtain ⟨h1, rfl⟩ := List.getElem?_eq_some_iff.1 h
  unfold bytesT
  rw [List.take_succ_eq_append_getElem h1, List.map_append, List.map_append, List.map_cons, List.map_nil, List.map_cons, List.map_nil, join_snoc]
  by_cases hk : k = 0
  · subst hk; simp
  · have : ¬ List.map (fun x : ByteArray => x.data.toList) (List.map actT (l.take k)) = [] := by
      intro e
      have e2 := List.map_eq_nil_iff.1 (List.map_eq_nil_iff.1 e)
      have := congrArg List.length e2
      rw [List.length_take, List.length_nil] at this
      omega
    rw [if_neg hk, if_neg this]
    simp
theorem actT_small {a : ActD} (h : actOk a = true) : (actT a).size ≤ 6 := by
  unfold actT
  split
  · rename_i hk
    have hl : isLet a.letter = true := by simpa [actOk, hk] using h
    have := isLet_size1 hl
    rw [ByteArray.size_append, this]
    decide
  · repeat' split
    all_goals decide
theorem bytesT_len (l : List ActD) (h : ∀ x ∈ l, actOk x = true) : ∀ k, k ≤ l.length → (bytesT (l.take k)).length ≤ 7 * k
  | 0, _ => by simp [bytesT, Lib.join, List.intercalate]
  | k + 1, hk => by
    have ih := bytesT_len l h k (by omega)
    have hx : l[k]? = some l[k] := List.getElem?_eq_getElem (by omega)
    have hs := actT_small (h l[k] (List.getElem_mem _))
    have hs2 : (actT l[k]).data.toList.length ≤ 6 := hs
    rw [bytesT_step hx]
    split
    · omega
    · rw [List.length_append, List.length_cons]; omega
theorem cat_bytes (acc : List UInt8) (t : ByteArray) : (⟨acc.toArray⟩ : ByteArray) ++ t = ⟨(acc ++ t.data.toList).toArray⟩ := by
  apply ByteArray.ext
  simp
theorem textR4_no {l : List ActD} (h : actsOk l = false) : textR4 l = ⟨#[]⟩ := by simp [textR4, h]
theorem textR4_yes {l : List ActD} (h : actsOk l = true) : textR4 l = ⟨(bytesT l).toArray⟩ := by simp [textR4, h]
theorem ret_s4 {a b : ByteArray} (h : a = b) : Ending.returned (.string a) = .returned (.string b) := by rw [h]
theorem text0 (letter : ByteArray) (hs : letter.size ≤ maxLen) (h1 : letter.size = 1) (w : World) : Calls Tryd.prog 106 #[.agg #[.string letter]] w fun e w' => e = .returned (.string (actT ⟨0, letter⟩)) ∧ Below w.heap.size w w' := by
  have hsz : (1 : Nat) + letter.size ≤ 100 := by omega
  go_enter Tryd.func106, Tryd.ntmps106
  go_wp2
  go_ret
  exact ⟨rfl, below_a1 _ _⟩
theorem text1 (letter : ByteArray) (w : World) : Calls Tryd.prog 108 #[.agg #[]] w fun e w' => e = .returned (.string (actT ⟨1, letter⟩)) ∧ Below w.heap.size w w' := by
  go_enter Tryd.func108, Tryd.ntmps108
  go_wp2
  go_ret
  exact ⟨rfl, below_a1 _ _⟩
theorem text2 (letter : ByteArray) (w : World) : Calls Tryd.prog 110 #[.agg #[]] w fun e w' => e = .returned (.string (actT ⟨2, letter⟩)) ∧ Below w.heap.size w w' := by
  go_enter Tryd.func110, Tryd.ntmps110
  go_wp2
  go_ret
  exact ⟨rfl, below_a1 _ _⟩
theorem text3 (letter : ByteArray) (w : World) : Calls Tryd.prog 112 #[.agg #[]] w fun e w' => e = .returned (.string (actT ⟨3, letter⟩)) ∧ Below w.heap.size w w' := by
  go_enter Tryd.func112, Tryd.ntmps112
  go_wp2
  go_ret
  exact ⟨rfl, below_a1 _ _⟩
theorem text4 (letter : ByteArray) (w : World) : Calls Tryd.prog 114 #[.agg #[]] w fun e w' => e = .returned (.string (actT ⟨4, letter⟩)) ∧ Below w.heap.size w w' := by
  go_enter Tryd.func114, Tryd.ntmps114
  go_wp2
  go_ret
  exact ⟨rfl, below_a1 _ _⟩
theorem text5 (letter : ByteArray) (w : World) : Calls Tryd.prog 116 #[.agg #[]] w fun e w' => e = .returned (.string (actT ⟨5, letter⟩)) ∧ Below w.heap.size w w' := by
  go_enter Tryd.func116, Tryd.ntmps116
  go_wp2
  go_ret
  exact ⟨rfl, below_a1 _ _⟩

set_option maxRecDepth 100000 in
set_option maxHeartbeats 4000000 in
theorem text_spec4 (A : Option Addr) (n c : Nat) (xs : List ActD) (w : World) (h : Acts w A n xs) (hn : n ≤ 1048576) (hx : ∀ x ∈ xs, x.good) :
    Calls Tryd.prog 22 #[.slice A n c] w fun e w' => e = .returned (.string (textR4 xs)) ∧ Below w.heap.size w w' := by
  have hac := fun W (hS : Acts W A n xs) => acts_spec A n c xs W hS hn hx
  cases hl : actsOk xs with
  | false =>
    rw [hl] at hac
    replace hac := Lib.hid hac
    rw [textR4_no hl]
    clear hl hx
    go_enter Tryd.func22, Tryd.ntmps22
    go_wp2_with fail
    refine (hac.out _ h).mono ?_
    rintro e w1 ⟨rfl, hb1⟩
    go_wp2
    go_ret
    exact ⟨rfl, hb1⟩
  | true =>
    rw [hl] at hac
    replace hac := Lib.hid hac
    have hlen : n ≤ 200 := by rw [← h.1]; exact of_decide_eq_true (Bool.and_eq_true _ _ ▸ hl).2
    have hmem := Lib.hid (acts_mem hl)
    have hbl := Lib.hid (bytesT_len xs (acts_mem hl))
    have hxl := h.1
    rw [textR4_yes hl]
    obtain ⟨r, hr⟩ : ∃ r : ByteArray, (⟨(bytesT xs).toArray⟩ : ByteArray) = r := ⟨_, rfl⟩
    rw [hr]
    replace hr := Lib.hid hr
    replace hxl := Lib.hid hxl
    clear hl hx
    go_enter Tryd.func22, Tryd.ntmps22
    go_wp2_with fail
    refine (hac.out _ h).mono ?_
    rintro e w1 ⟨rfl, hb1⟩
    have hS := h.below hb1
    clear h hac
    go_wp2
    have hW : (w1.alloc (.cells #[.string ⟨#[]⟩, .string ⟨#[115, 112, 97, 99, 101]⟩, .string ⟨#[98, 97, 99, 107]⟩, .string ⟨#[104, 97, 108, 102]⟩, .string ⟨#[102, 114, 101, 101]⟩, .string ⟨#[114, 101, 116, 117, 114, 110]⟩] 9)).heap[w1.heap.size]? = some (.cells #[.string ⟨#[]⟩, .string ⟨#[115, 112, 97, 99, 101]⟩, .string ⟨#[98, 97, 99, 107]⟩, .string ⟨#[104, 97, 108, 102]⟩, .string ⟨#[102, 114, 101, 101]⟩, .string ⟨#[114, 101, 116, 117, 114, 110]⟩] 9) := heap_alloc_new _ _
    have hbw2 := hb1.step (below_a1 w1 (.cells #[.string ⟨#[]⟩, .string ⟨#[115, 112, 97, 99, 101]⟩, .string ⟨#[98, 97, 99, 107]⟩, .string ⟨#[104, 97, 108, 102]⟩, .string ⟨#[102, 114, 101, 101]⟩, .string ⟨#[114, 101, 116, 117, 114, 110]⟩] 9))
    have hS2 := hS.below (below_a1 w1 (.cells #[.string ⟨#[]⟩, .string ⟨#[115, 112, 97, 99, 101]⟩, .string ⟨#[98, 97, 99, 107]⟩, .string ⟨#[104, 97, 108, 102]⟩, .string ⟨#[102, 114, 101, 101]⟩, .string ⟨#[114, 101, 116, 117, 114, 110]⟩] 9))
    replace hbw2 := Lib.hid hbw2
    generalize hNN : w1.heap.size = N at *
    obtain ⟨w2, hw2⟩ : ∃ w2, w1.alloc (.cells #[.string ⟨#[]⟩, .string ⟨#[115, 112, 97, 99, 101]⟩, .string ⟨#[98, 97, 99, 107]⟩, .string ⟨#[104, 97, 108, 102]⟩, .string ⟨#[102, 114, 101, 101]⟩, .string ⟨#[114, 101, 116, 117, 114, 110]⟩] 9) = w2 := ⟨_, rfl⟩
    rw [hw2] at hW hbw2 hS2 ⊢
    clear hw2 hS hb1
    have hWl := own_lt hW
    go_loopw [4, 5] (fun v i wr => ∃ (k : Nat) (out : ByteArray), k ≤ n ∧ i = .int .i64 k ∧ v = .string out ∧ Below w2.heap.size w2 wr ∧ out = ⟨(bytesT (xs.take k)).toArray⟩) (fun _ i _ => n - (intOf i).toNat)
    case atStart => exact ⟨0, ⟨#[]⟩, by omega, rfl, rfl, Below.refl _ _, by simp [bytesT, Lib.join, List.intercalate]⟩
    case round =>
      rename World => wr
      obtain ⟨k, out, hk, rfl, rfl, hbw, he⟩ := hrel
      have hos : out.size ≤ 1400 := by rw [he]; have := hbl.out k (by rw [hxl.out]; exact hk); show (bytesT (xs.take k)).toArray.size ≤ 1400; simp; omega
      by_cases hlt : k < n
      · obtain ⟨b, off, x, rfl, hb, hxs, c0, c1⟩ := act_at (hS2.below hbw) hlt
        have hst := bytesT_step hxs.out
        have hok := hmem.out x (List.mem_of_getElem? hxs.out)
        have hkd := actOk_kind hok
        have hk0 : (0 : Int) ≤ (k : Int) := Int.natCast_nonneg _
        have hk1 : (k : Int) < (n : Int) := by omega
        have hWw := (hbw.block N hWl).trans hW
        have hWl2 := own_lt hWw
        have hls : x.kind = 0 → x.letter.size = 1 := fun hk => isLet_size1 (by simpa [actOk, hk] using hok)
        obtain ⟨kind, letter⟩ := x
        simp only at c0 c1 hkd hls
        by_cases hz : k = 0
        · rcases hkd with hkd | hkd | hkd | hkd | hkd | hkd <;> subst hkd
          · have hl1 := hls rfl
            have hnx : Hid ((out) ++ ((⟨#[39]⟩ : ByteArray) ++ letter) = (⟨(bytesT (xs.take (k + 1))).toArray⟩ : ByteArray)) := Lib.hid (by rw [hst, he]; rw [if_pos hz, hz]; rw [cat_bytes]; simp [actT, bytesT, Lib.join, List.intercalate])
            have hfit : out.size + 10 ≤ 100000 := by omega
            clear he hst hls
            have g0 : decide ((0 : Int) < (k : Int)) = false := decide_eq_false (by omega)
            have g1 : decide (0 < k) = false := decide_eq_false (by omega)
            replace hz := Lib.hid hz
            go_wp2
            go_roundw
            case rel => exact ⟨k + 1, _, by omega, by go_num, rfl, hbw, hnx.out⟩
            case measure => simp [intOf]; omega
          · have wc : wr.cell? ⟨N, 1, none⟩ = some (.string ⟨#[115, 112, 97, 99, 101]⟩) := own_cell hWw (o := 1) rfl
            have hnx : Hid ((out) ++ (⟨#[115, 112, 97, 99, 101]⟩ : ByteArray) = (⟨(bytesT (xs.take (k + 1))).toArray⟩ : ByteArray)) := Lib.hid (by rw [hst, he]; rw [if_pos hz, hz]; rw [cat_bytes]; simp [actT, bytesT, Lib.join, List.intercalate])
            have hfit : out.size + 10 ≤ 100000 := by omega
            clear he hst hls
            have g0 : decide ((0 : Int) < (k : Int)) = false := decide_eq_false (by omega)
            have g1 : decide (0 < k) = false := decide_eq_false (by omega)
            replace hz := Lib.hid hz
            go_wp2
            go_roundw
            case rel => exact ⟨k + 1, _, by omega, by go_num, rfl, hbw, hnx.out⟩
            case measure => simp [intOf]; omega
          · have wc : wr.cell? ⟨N, 2, none⟩ = some (.string ⟨#[98, 97, 99, 107]⟩) := own_cell hWw (o := 2) rfl
            have hnx : Hid ((out) ++ (⟨#[98, 97, 99, 107]⟩ : ByteArray) = (⟨(bytesT (xs.take (k + 1))).toArray⟩ : ByteArray)) := Lib.hid (by rw [hst, he]; rw [if_pos hz, hz]; rw [cat_bytes]; simp [actT, bytesT, Lib.join, List.intercalate])
            have hfit : out.size + 10 ≤ 100000 := by omega
            clear he hst hls
            have g0 : decide ((0 : Int) < (k : Int)) = false := decide_eq_false (by omega)
            have g1 : decide (0 < k) = false := decide_eq_false (by omega)
            replace hz := Lib.hid hz
            go_wp2
            go_roundw
            case rel => exact ⟨k + 1, _, by omega, by go_num, rfl, hbw, hnx.out⟩
            case measure => simp [intOf]; omega
          · have wc : wr.cell? ⟨N, 3, none⟩ = some (.string ⟨#[104, 97, 108, 102]⟩) := own_cell hWw (o := 3) rfl
            have hnx : Hid ((out) ++ (⟨#[104, 97, 108, 102]⟩ : ByteArray) = (⟨(bytesT (xs.take (k + 1))).toArray⟩ : ByteArray)) := Lib.hid (by rw [hst, he]; rw [if_pos hz, hz]; rw [cat_bytes]; simp [actT, bytesT, Lib.join, List.intercalate])
            have hfit : out.size + 10 ≤ 100000 := by omega
            clear he hst hls
            have g0 : decide ((0 : Int) < (k : Int)) = false := decide_eq_false (by omega)
            have g1 : decide (0 < k) = false := decide_eq_false (by omega)
            replace hz := Lib.hid hz
            go_wp2
            go_roundw
            case rel => exact ⟨k + 1, _, by omega, by go_num, rfl, hbw, hnx.out⟩
            case measure => simp [intOf]; omega
          · have wc : wr.cell? ⟨N, 4, none⟩ = some (.string ⟨#[102, 114, 101, 101]⟩) := own_cell hWw (o := 4) rfl
            have hnx : Hid ((out) ++ (⟨#[102, 114, 101, 101]⟩ : ByteArray) = (⟨(bytesT (xs.take (k + 1))).toArray⟩ : ByteArray)) := Lib.hid (by rw [hst, he]; rw [if_pos hz, hz]; rw [cat_bytes]; simp [actT, bytesT, Lib.join, List.intercalate])
            have hfit : out.size + 10 ≤ 100000 := by omega
            clear he hst hls
            have g0 : decide ((0 : Int) < (k : Int)) = false := decide_eq_false (by omega)
            have g1 : decide (0 < k) = false := decide_eq_false (by omega)
            replace hz := Lib.hid hz
            go_wp2
            go_roundw
            case rel => exact ⟨k + 1, _, by omega, by go_num, rfl, hbw, hnx.out⟩
            case measure => simp [intOf]; omega
          · have wc : wr.cell? ⟨N, 5, none⟩ = some (.string ⟨#[114, 101, 116, 117, 114, 110]⟩) := own_cell hWw (o := 5) rfl
            have hnx : Hid ((out) ++ (⟨#[114, 101, 116, 117, 114, 110]⟩ : ByteArray) = (⟨(bytesT (xs.take (k + 1))).toArray⟩ : ByteArray)) := Lib.hid (by rw [hst, he]; rw [if_pos hz, hz]; rw [cat_bytes]; simp [actT, bytesT, Lib.join, List.intercalate])
            have hfit : out.size + 10 ≤ 100000 := by omega
            clear he hst hls
            have g0 : decide ((0 : Int) < (k : Int)) = false := decide_eq_false (by omega)
            have g1 : decide (0 < k) = false := decide_eq_false (by omega)
            replace hz := Lib.hid hz
            go_wp2
            go_roundw
            case rel => exact ⟨k + 1, _, by omega, by go_num, rfl, hbw, hnx.out⟩
            case measure => simp [intOf]; omega
        · rcases hkd with hkd | hkd | hkd | hkd | hkd | hkd <;> subst hkd
          · have hl1 := hls rfl
            have hnx : Hid ((out ++ (⟨#[32]⟩ : ByteArray)) ++ ((⟨#[39]⟩ : ByteArray) ++ letter) = (⟨(bytesT (xs.take (k + 1))).toArray⟩ : ByteArray)) := Lib.hid (by rw [hst, he]; rw [if_neg hz, cat_bytes, cat_bytes]; simp [actT])
            have hfit : out.size + 10 ≤ 100000 := by omega
            clear he hst hls
            have g0 : decide ((0 : Int) < (k : Int)) = true := decide_eq_true (by omega)
            have g1 : decide (0 < k) = true := decide_eq_true (by omega)
            replace hz := Lib.hid hz
            go_wp2
            go_roundw
            case rel => exact ⟨k + 1, _, by omega, by go_num, rfl, hbw, hnx.out⟩
            case measure => simp [intOf]; omega
          · have wc : wr.cell? ⟨N, 1, none⟩ = some (.string ⟨#[115, 112, 97, 99, 101]⟩) := own_cell hWw (o := 1) rfl
            have hnx : Hid ((out ++ (⟨#[32]⟩ : ByteArray)) ++ (⟨#[115, 112, 97, 99, 101]⟩ : ByteArray) = (⟨(bytesT (xs.take (k + 1))).toArray⟩ : ByteArray)) := Lib.hid (by rw [hst, he]; rw [if_neg hz, cat_bytes, cat_bytes]; simp [actT])
            have hfit : out.size + 10 ≤ 100000 := by omega
            clear he hst hls
            have g0 : decide ((0 : Int) < (k : Int)) = true := decide_eq_true (by omega)
            have g1 : decide (0 < k) = true := decide_eq_true (by omega)
            replace hz := Lib.hid hz
            go_wp2
            go_roundw
            case rel => exact ⟨k + 1, _, by omega, by go_num, rfl, hbw, hnx.out⟩
            case measure => simp [intOf]; omega
          · have wc : wr.cell? ⟨N, 2, none⟩ = some (.string ⟨#[98, 97, 99, 107]⟩) := own_cell hWw (o := 2) rfl
            have hnx : Hid ((out ++ (⟨#[32]⟩ : ByteArray)) ++ (⟨#[98, 97, 99, 107]⟩ : ByteArray) = (⟨(bytesT (xs.take (k + 1))).toArray⟩ : ByteArray)) := Lib.hid (by rw [hst, he]; rw [if_neg hz, cat_bytes, cat_bytes]; simp [actT])
            have hfit : out.size + 10 ≤ 100000 := by omega
            clear he hst hls
            have g0 : decide ((0 : Int) < (k : Int)) = true := decide_eq_true (by omega)
            have g1 : decide (0 < k) = true := decide_eq_true (by omega)
            replace hz := Lib.hid hz
            go_wp2
            go_roundw
            case rel => exact ⟨k + 1, _, by omega, by go_num, rfl, hbw, hnx.out⟩
            case measure => simp [intOf]; omega
          · have wc : wr.cell? ⟨N, 3, none⟩ = some (.string ⟨#[104, 97, 108, 102]⟩) := own_cell hWw (o := 3) rfl
            have hnx : Hid ((out ++ (⟨#[32]⟩ : ByteArray)) ++ (⟨#[104, 97, 108, 102]⟩ : ByteArray) = (⟨(bytesT (xs.take (k + 1))).toArray⟩ : ByteArray)) := Lib.hid (by rw [hst, he]; rw [if_neg hz, cat_bytes, cat_bytes]; simp [actT])
            have hfit : out.size + 10 ≤ 100000 := by omega
            clear he hst hls
            have g0 : decide ((0 : Int) < (k : Int)) = true := decide_eq_true (by omega)
            have g1 : decide (0 < k) = true := decide_eq_true (by omega)
            replace hz := Lib.hid hz
            go_wp2
            go_roundw
            case rel => exact ⟨k + 1, _, by omega, by go_num, rfl, hbw, hnx.out⟩
            case measure => simp [intOf]; omega
          · have wc : wr.cell? ⟨N, 4, none⟩ = some (.string ⟨#[102, 114, 101, 101]⟩) := own_cell hWw (o := 4) rfl
            have hnx : Hid ((out ++ (⟨#[32]⟩ : ByteArray)) ++ (⟨#[102, 114, 101, 101]⟩ : ByteArray) = (⟨(bytesT (xs.take (k + 1))).toArray⟩ : ByteArray)) := Lib.hid (by rw [hst, he]; rw [if_neg hz, cat_bytes, cat_bytes]; simp [actT])
            have hfit : out.size + 10 ≤ 100000 := by omega
            clear he hst hls
            have g0 : decide ((0 : Int) < (k : Int)) = true := decide_eq_true (by omega)
            have g1 : decide (0 < k) = true := decide_eq_true (by omega)
            replace hz := Lib.hid hz
            go_wp2
            go_roundw
            case rel => exact ⟨k + 1, _, by omega, by go_num, rfl, hbw, hnx.out⟩
            case measure => simp [intOf]; omega
          · have wc : wr.cell? ⟨N, 5, none⟩ = some (.string ⟨#[114, 101, 116, 117, 114, 110]⟩) := own_cell hWw (o := 5) rfl
            have hnx : Hid ((out ++ (⟨#[32]⟩ : ByteArray)) ++ (⟨#[114, 101, 116, 117, 114, 110]⟩ : ByteArray) = (⟨(bytesT (xs.take (k + 1))).toArray⟩ : ByteArray)) := Lib.hid (by rw [hst, he]; rw [if_neg hz, cat_bytes, cat_bytes]; simp [actT])
            have hfit : out.size + 10 ≤ 100000 := by omega
            clear he hst hls
            have g0 : decide ((0 : Int) < (k : Int)) = true := decide_eq_true (by omega)
            have g1 : decide (0 < k) = true := decide_eq_true (by omega)
            replace hz := Lib.hid hz
            go_wp2
            go_roundw
            case rel => exact ⟨k + 1, _, by omega, by go_num, rfl, hbw, hnx.out⟩
            case measure => simp [intOf]; omega
      · obtain rfl : k = n := by omega
        have hr2 : Hid (out = r) := Lib.hid (by rw [he, ← hr.out, List.take_of_length_le (by rw [hxl.out]; omega)])
        clear he
        go_wp2
        go_ret
        exact ⟨ret_s4 hr2.out, hbw2.out.step hbw⟩
theorem news1s (w : World) (v : Value) (T : TypeId) : ∀ j u, [v][j]? = some u → (w.alloc (.cells #[v] T)).cell? ((⟨w.heap.size, 0, none⟩ : Addr).add j) = some u := by
  intro j u hj
  match j, hj with
  | 0, hj => cases hj; exact cell_new (by simp [Addr.add]) rfl
  | j + 1, hj => simp at hj
theorem one1s (x : ByteArray) : ∀ u ∈ [Value.string x], u.oneCell' = true := by
  intro u hu
  simp only [List.mem_cons, List.not_mem_nil, or_false] at hu
  rcases hu with rfl; rfl
theorem owns_ge4 {w : World} {base : Nat} {E : TypeId} {size n g : Nat} {v : Value} {xs : List Value} (h : w.ownsRow base E size v n xs) (hg : v.ownBlock = some g) : base ≤ g := by
  obtain ⟨_, ⟨rfl, _⟩ | ⟨g', cap, cur, rfl, hb, _⟩⟩ := h
  · cases hg
  · cases hg; exact hb
theorem owns_form4 {w : World} {base : Nat} {E : TypeId} {size n : Nat} {v : Value} {xs : List Value} (h : w.ownsRow base E size v n xs) : ∃ A c, v = .slice A n c := by
  obtain ⟨_, ⟨rfl, rfl⟩ | ⟨g', cap, cur, rfl, _⟩⟩ := h
  · exact ⟨_, _, rfl⟩
  · exact ⟨_, _, rfl⟩
def strV (l : List ActD) : List Value := (l.map actT).map Value.string
theorem strV_step {l : List ActD} {k : Nat} {x : ActD} (h : l[k]? = some x) : strV (l.take (k + 1)) = strV (l.take k) ++ [.string (actT x)] := by
  obtain ⟨h1, rfl⟩ := List.getElem?_eq_some_iff.1 h
  unfold strV
  rw [List.take_succ_eq_append_getElem h1, List.map_append, List.map_append]
  rfl
/-- A row of texts that the call owns, joined. -/
theorem join_row {w : World} {base n : Nat} {v : Value} {l : List ActD} (h : w.ownsRow base 9 1 v n (strV l)) (hl : l.length = n) (hn : n ≤ 200) (hb : (bytesT l).length ≤ 2000) :
    ∃ A c, v = .slice A n c ∧ Calls Tryd.prog 44 #[.slice A n c, .string ⟨#[32]⟩] w fun e w' => e = .returned (.string ⟨(bytesT l).toArray⟩) ∧ Below w.heap.size w w' := by
  by_cases h0 : n = 0
  · subst h0
    obtain ⟨A, c, rfl⟩ := owns_form4 h
    have hl0 := List.length_eq_zero_iff.1 hl
    subst hl0
    exact ⟨A, c, rfl, (Tryd.strings_Join_none A c ⟨#[32]⟩ w).mono fun e w' ⟨he, hw⟩ => ⟨by rw [he]; simp [bytesT, Lib.join, List.intercalate], hw ▸ Below.refl _ _⟩⟩
  · obtain ⟨hlen, ⟨rfl, hn0⟩ | ⟨g, cap, cur, rfl, hbg, hg, hc, hm, hs, ht⟩⟩ := h
    · exact absurd hn0 h0
    · subst hl
      refine ⟨some ⟨g, 0, none⟩, cap, rfl, ?_⟩
      have hj := Tryd.strings_Join g 0 cap (l.map actT) ⟨#[32]⟩ w (fun j x hx => by
        have h1 : (strV l)[j]? = some (.string x) := by simp only [strV, List.getElem?_map] at hx ⊢; rw [hx]; rfl
        have hil : j < l.length := by have := (List.getElem?_eq_some_iff.1 hx).1; simpa using this
        rw [← ht, List.getElem?_take, if_pos (by omega)] at h1
        rw [Nat.zero_add]
        simp [World.cell?, hg]
        simpa using h1) (Array.getElem?_eq_some_iff.1 hg).1 (by simp; omega) (by simpa using hc) (by show (bytesT l).length ≤ _; omega)
      rw [List.length_map] at hj
      exact hj
theorem Tryd.infoStr4 : (Tryd.prog.info? 9).map (fun i => (i.zero, i.size, i.bytes)) = some (some (.string ⟨#[]⟩), 1, 16) := by kernel_rfl
set_option maxRecDepth 100000 in
set_option maxHeartbeats 4000000 in
theorem text_impl4 (A : Option Addr) (n c : Nat) (xs : List ActD) (w : World) (h : Acts w A n xs) (hn : n ≤ 1048576) (hx : ∀ x ∈ xs, x.good) :
    Calls Tryd.prog 21 #[.slice A n c] w fun e w' => e = .returned (.string (textR4 xs)) ∧ Below w.heap.size w w' := by
  obtain ⟨i0, hi, hz0, hz1, hz2⟩ := info_parts Tryd.infoStr4
  cases hl : actsOk xs with
  | false =>
    have hac := Lib.hid (fun W (hS : Acts W A n xs) => acts_impl A n c xs W hS hn hx hl)
    rw [textR4_no hl]
    clear hl hx
    go_enter Tryd.func21, Tryd.ntmps21
    go_wp2_with fail
    refine (hac.out _ h).mono ?_
    rintro e w1 ⟨rfl, hb1⟩
    go_wp2
    go_ret
    exact ⟨rfl, hb1⟩
  | true =>
    have hac := Lib.hid (fun W (hS : Acts W A n xs) => acts_impl A n c xs W hS hn hx hl)
    have hlen : n ≤ 200 := by rw [← h.1]; exact of_decide_eq_true (Bool.and_eq_true _ _ ▸ hl).2
    have hmem := Lib.hid (acts_mem hl)
    have hgood := Lib.hid hx
    have hbl := Lib.hid (bytesT_len xs (acts_mem hl))
    have hxl := h.1
    rw [textR4_yes hl]
    obtain ⟨r, hr⟩ : ∃ r : ByteArray, (⟨(bytesT xs).toArray⟩ : ByteArray) = r := ⟨_, rfl⟩
    rw [hr]
    replace hr := Lib.hid hr
    replace hxl := Lib.hid hxl
    clear hl hx
    go_enter Tryd.func21, Tryd.ntmps21
    go_wp2_with fail
    refine (hac.out _ h).mono ?_
    rintro e w1 ⟨rfl, hb1⟩
    have hS := h.below hb1
    replace hb1 := Lib.hid hb1
    clear h hac
    go_wp2
    go_loopw [3, 11] (fun v i wr => ∃ k : Nat, k ≤ n ∧ i = .int .i64 k ∧ Below w1.heap.size w1 wr ∧ wr.ownsRow w1.heap.size 9 1 v k (strV (xs.take k))) (fun _ i _ => n - (intOf i).toNat)
    case atStart => exact ⟨0, by omega, rfl, Below.refl _ _, ⟨rfl, .inl ⟨rfl, rfl⟩⟩⟩
    case round =>
      rename World => wr
      obtain ⟨k, hk, rfl, hbw, hrow⟩ := hrel
      have hwz := hbw.size
      by_cases hlt : k < n
      · obtain ⟨b, off, x, rfl, hb, hxs, c0, c1⟩ := act_at (hS.below hbw) hlt
        have hst := strV_step hxs.out
        have hok := hmem.out x (List.mem_of_getElem? hxs.out)
        have hgx := hgood.out x (List.mem_of_getElem? hxs.out)
        have hkd := actOk_kind hok
        have hk0 : (0 : Int) ≤ (k : Int) := Int.natCast_nonneg _
        have hk1 : (k : Int) < (n : Int) := by omega
        have hls : x.kind = 0 → x.letter.size = 1 := fun hk => isLet_size1 (by simpa [actOk, hk] using hok)
        obtain ⟨kind, letter⟩ := x
        simp only at c0 c1 hkd hls
        replace hrow := Lib.hid hrow
        rcases hkd with hkd | hkd | hkd | hkd | hkd | hkd <;> subst hkd
        · have hx0 := Lib.hid hls
          clear hls
          go_wp2_with fail
          refine (deed0 letter _).mono ?_
          rintro e w2 ⟨rfl, hb2⟩
          have hB2 := (below_a1 _ _).step hb2
          have hrow2 := owns_below hrow.out hB2
          have hbw2 := Lib.hid (hbw.trans (hB2.mono hbw.size))
          clear hb2
          go_wp2_with fail
          refine (text0 letter hgx.2 (by have := hx0.out; simpa using this) _).mono ?_
          rintro e w3 ⟨rfl, hb3⟩
          have hrow3 := Lib.hid (owns_below hrow2 hb3)
          have hbw3 := Lib.hid (hbw2.out.step hb3)
          have hz3 := hbw3.out.size
          clear hrow2 hb3 hB2
          generalize actT ⟨0, letter⟩ = tx at *
          go_wp2_with (at_builtin; refine wpList_append_own _ rfl _ _ 75 rfl w1.heap.size 9 i0 _ 1 16 Tryd.underlying75 hi hz0 hz1 hz2 rfl (by decide) _ _ _ rfl (hrow3.out.alloc _) ⟨w3.heap.size, 0, none⟩ 1 1 [.string tx] rfl rfl (news1s _ _ _) (one1s _) (by unfold maxLen; omega) (by omega) (by simp; omega) ?_)
          intro v4 w4 hown4 hgr4 hnil4
          have hgq := grown_trans (grown_below (below_a1 w3 _) _) hgr4
          have hrel4 : Hid (w4.ownsRow w1.heap.size 9 1 v4 (k + 1) (strV (xs.take (k + 1))) ∧ Below w1.heap.size w1 w4) := Lib.hid ⟨by rw [hst]; exact hown4, hbw3.out.grown hgq hz3 (fun j hj => owns_ge4 hrow3.out hj)⟩
          clear hown4 hgr4 hnil4 hgq hst
          go_wp2
          go_roundw
          case rel => exact ⟨k + 1, by omega, by go_num, hrel4.out.2, hrel4.out.1⟩
          case measure => simp [intOf]; omega
        · have hx1 := Lib.hid hls
          clear hls
          go_wp2_with fail
          refine (deed1 letter _).mono ?_
          rintro e w2 ⟨rfl, hb2⟩
          have hB2 := (below_a1 _ _).step hb2
          have hrow2 := owns_below hrow.out hB2
          have hbw2 := Lib.hid (hbw.trans (hB2.mono hbw.size))
          clear hb2
          go_wp2_with fail
          refine (text1 letter _).mono ?_
          rintro e w3 ⟨rfl, hb3⟩
          have hrow3 := Lib.hid (owns_below hrow2 hb3)
          have hbw3 := Lib.hid (hbw2.out.step hb3)
          have hz3 := hbw3.out.size
          clear hrow2 hb3 hB2
          generalize actT ⟨1, letter⟩ = tx at *
          go_wp2_with (at_builtin; refine wpList_append_own _ rfl _ _ 75 rfl w1.heap.size 9 i0 _ 1 16 Tryd.underlying75 hi hz0 hz1 hz2 rfl (by decide) _ _ _ rfl (hrow3.out.alloc _) ⟨w3.heap.size, 0, none⟩ 1 1 [.string tx] rfl rfl (news1s _ _ _) (one1s _) (by unfold maxLen; omega) (by omega) (by simp; omega) ?_)
          intro v4 w4 hown4 hgr4 hnil4
          have hgq := grown_trans (grown_below (below_a1 w3 _) _) hgr4
          have hrel4 : Hid (w4.ownsRow w1.heap.size 9 1 v4 (k + 1) (strV (xs.take (k + 1))) ∧ Below w1.heap.size w1 w4) := Lib.hid ⟨by rw [hst]; exact hown4, hbw3.out.grown hgq hz3 (fun j hj => owns_ge4 hrow3.out hj)⟩
          clear hown4 hgr4 hnil4 hgq hst
          go_wp2
          go_roundw
          case rel => exact ⟨k + 1, by omega, by go_num, hrel4.out.2, hrel4.out.1⟩
          case measure => simp [intOf]; omega
        · have hx2 := Lib.hid hls
          clear hls
          go_wp2_with fail
          refine (deed2 letter _).mono ?_
          rintro e w2 ⟨rfl, hb2⟩
          have hB2 := (below_a1 _ _).step hb2
          have hrow2 := owns_below hrow.out hB2
          have hbw2 := Lib.hid (hbw.trans (hB2.mono hbw.size))
          clear hb2
          go_wp2_with fail
          refine (text2 letter _).mono ?_
          rintro e w3 ⟨rfl, hb3⟩
          have hrow3 := Lib.hid (owns_below hrow2 hb3)
          have hbw3 := Lib.hid (hbw2.out.step hb3)
          have hz3 := hbw3.out.size
          clear hrow2 hb3 hB2
          generalize actT ⟨2, letter⟩ = tx at *
          go_wp2_with (at_builtin; refine wpList_append_own _ rfl _ _ 75 rfl w1.heap.size 9 i0 _ 1 16 Tryd.underlying75 hi hz0 hz1 hz2 rfl (by decide) _ _ _ rfl (hrow3.out.alloc _) ⟨w3.heap.size, 0, none⟩ 1 1 [.string tx] rfl rfl (news1s _ _ _) (one1s _) (by unfold maxLen; omega) (by omega) (by simp; omega) ?_)
          intro v4 w4 hown4 hgr4 hnil4
          have hgq := grown_trans (grown_below (below_a1 w3 _) _) hgr4
          have hrel4 : Hid (w4.ownsRow w1.heap.size 9 1 v4 (k + 1) (strV (xs.take (k + 1))) ∧ Below w1.heap.size w1 w4) := Lib.hid ⟨by rw [hst]; exact hown4, hbw3.out.grown hgq hz3 (fun j hj => owns_ge4 hrow3.out hj)⟩
          clear hown4 hgr4 hnil4 hgq hst
          go_wp2
          go_roundw
          case rel => exact ⟨k + 1, by omega, by go_num, hrel4.out.2, hrel4.out.1⟩
          case measure => simp [intOf]; omega
        · have hx3 := Lib.hid hls
          clear hls
          go_wp2_with fail
          refine (deed3 letter _).mono ?_
          rintro e w2 ⟨rfl, hb2⟩
          have hB2 := (below_a1 _ _).step hb2
          have hrow2 := owns_below hrow.out hB2
          have hbw2 := Lib.hid (hbw.trans (hB2.mono hbw.size))
          clear hb2
          go_wp2_with fail
          refine (text3 letter _).mono ?_
          rintro e w3 ⟨rfl, hb3⟩
          have hrow3 := Lib.hid (owns_below hrow2 hb3)
          have hbw3 := Lib.hid (hbw2.out.step hb3)
          have hz3 := hbw3.out.size
          clear hrow2 hb3 hB2
          generalize actT ⟨3, letter⟩ = tx at *
          go_wp2_with (at_builtin; refine wpList_append_own _ rfl _ _ 75 rfl w1.heap.size 9 i0 _ 1 16 Tryd.underlying75 hi hz0 hz1 hz2 rfl (by decide) _ _ _ rfl (hrow3.out.alloc _) ⟨w3.heap.size, 0, none⟩ 1 1 [.string tx] rfl rfl (news1s _ _ _) (one1s _) (by unfold maxLen; omega) (by omega) (by simp; omega) ?_)
          intro v4 w4 hown4 hgr4 hnil4
          have hgq := grown_trans (grown_below (below_a1 w3 _) _) hgr4
          have hrel4 : Hid (w4.ownsRow w1.heap.size 9 1 v4 (k + 1) (strV (xs.take (k + 1))) ∧ Below w1.heap.size w1 w4) := Lib.hid ⟨by rw [hst]; exact hown4, hbw3.out.grown hgq hz3 (fun j hj => owns_ge4 hrow3.out hj)⟩
          clear hown4 hgr4 hnil4 hgq hst
          go_wp2
          go_roundw
          case rel => exact ⟨k + 1, by omega, by go_num, hrel4.out.2, hrel4.out.1⟩
          case measure => simp [intOf]; omega
        · have hx4 := Lib.hid hls
          clear hls
          go_wp2_with fail
          refine (deed4 letter _).mono ?_
          rintro e w2 ⟨rfl, hb2⟩
          have hB2 := (below_a1 _ _).step hb2
          have hrow2 := owns_below hrow.out hB2
          have hbw2 := Lib.hid (hbw.trans (hB2.mono hbw.size))
          clear hb2
          go_wp2_with fail
          refine (text4 letter _).mono ?_
          rintro e w3 ⟨rfl, hb3⟩
          have hrow3 := Lib.hid (owns_below hrow2 hb3)
          have hbw3 := Lib.hid (hbw2.out.step hb3)
          have hz3 := hbw3.out.size
          clear hrow2 hb3 hB2
          generalize actT ⟨4, letter⟩ = tx at *
          go_wp2_with (at_builtin; refine wpList_append_own _ rfl _ _ 75 rfl w1.heap.size 9 i0 _ 1 16 Tryd.underlying75 hi hz0 hz1 hz2 rfl (by decide) _ _ _ rfl (hrow3.out.alloc _) ⟨w3.heap.size, 0, none⟩ 1 1 [.string tx] rfl rfl (news1s _ _ _) (one1s _) (by unfold maxLen; omega) (by omega) (by simp; omega) ?_)
          intro v4 w4 hown4 hgr4 hnil4
          have hgq := grown_trans (grown_below (below_a1 w3 _) _) hgr4
          have hrel4 : Hid (w4.ownsRow w1.heap.size 9 1 v4 (k + 1) (strV (xs.take (k + 1))) ∧ Below w1.heap.size w1 w4) := Lib.hid ⟨by rw [hst]; exact hown4, hbw3.out.grown hgq hz3 (fun j hj => owns_ge4 hrow3.out hj)⟩
          clear hown4 hgr4 hnil4 hgq hst
          go_wp2
          go_roundw
          case rel => exact ⟨k + 1, by omega, by go_num, hrel4.out.2, hrel4.out.1⟩
          case measure => simp [intOf]; omega
        · have hx5 := Lib.hid hls
          clear hls
          go_wp2_with fail
          refine (deed5 letter _).mono ?_
          rintro e w2 ⟨rfl, hb2⟩
          have hB2 := (below_a1 _ _).step hb2
          have hrow2 := owns_below hrow.out hB2
          have hbw2 := Lib.hid (hbw.trans (hB2.mono hbw.size))
          clear hb2
          go_wp2_with fail
          refine (text5 letter _).mono ?_
          rintro e w3 ⟨rfl, hb3⟩
          have hrow3 := Lib.hid (owns_below hrow2 hb3)
          have hbw3 := Lib.hid (hbw2.out.step hb3)
          have hz3 := hbw3.out.size
          clear hrow2 hb3 hB2
          generalize actT ⟨5, letter⟩ = tx at *
          go_wp2_with (at_builtin; refine wpList_append_own _ rfl _ _ 75 rfl w1.heap.size 9 i0 _ 1 16 Tryd.underlying75 hi hz0 hz1 hz2 rfl (by decide) _ _ _ rfl (hrow3.out.alloc _) ⟨w3.heap.size, 0, none⟩ 1 1 [.string tx] rfl rfl (news1s _ _ _) (one1s _) (by unfold maxLen; omega) (by omega) (by simp; omega) ?_)
          intro v4 w4 hown4 hgr4 hnil4
          have hgq := grown_trans (grown_below (below_a1 w3 _) _) hgr4
          have hrel4 : Hid (w4.ownsRow w1.heap.size 9 1 v4 (k + 1) (strV (xs.take (k + 1))) ∧ Below w1.heap.size w1 w4) := Lib.hid ⟨by rw [hst]; exact hown4, hbw3.out.grown hgq hz3 (fun j hj => owns_ge4 hrow3.out hj)⟩
          clear hown4 hgr4 hnil4 hgq hst
          go_wp2
          go_roundw
          case rel => exact ⟨k + 1, by omega, by go_num, hrel4.out.2, hrel4.out.1⟩
          case measure => simp [intOf]; omega
      · obtain rfl : k = n := by omega
        rw [List.take_of_length_le (by rw [hxl.out]; omega)] at hrow
        obtain ⟨A', c', rfl, hj⟩ := join_row hrow hxl.out hlen (by have := hbl.out k (by rw [hxl.out]; omega); rw [List.take_of_length_le (by rw [hxl.out]; omega)] at this; omega)
        rw [hr.out] at hj
        replace hj := Lib.hid hj
        clear hrow
        go_wp2_with fail
        refine (hj.out).mono ?_
        rintro e w5 ⟨rfl, hb5⟩
        go_wp2
        go_ret
        exact ⟨rfl, hb1.out.step (hbw.step hb5)⟩
end Go.Proofs.YtiopeheockajaaaDoor
