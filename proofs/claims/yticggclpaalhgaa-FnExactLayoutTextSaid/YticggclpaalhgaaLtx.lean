/- LayoutText: the model's function and the program's. -/
import Derived.Test.YticggclpaalhgaaSpB
import Derived.Test.YticggclpaalhgaaRdC
import Derived.Test.YticggclpaalhgaaShelf
import Derived.Lib.Join
namespace Go.Proofs.Yticggclpaalhgaa
open Go.RowKit Go.ChangeShapes Go.WideShapes Go.Deep
set_option linter.unusedVariables false
set_option linter.unusedSimpArgs false

def joinedL (xs : List ByteArray) : List UInt8 := Lib.join (xs.map (·.data.toList)) [47]
def ltxR (xs : List ByteArray) : ByteArray := if layOk xs = true then ⟨(joinedL xs).toArray⟩ else ⟨#[]⟩
theorem join_snoc6 (sep : List UInt8) : ∀ (l : List (List UInt8)) (x : List UInt8), Lib.join (l ++ [x]) sep = if l = [] then x else Lib.join l sep ++ (sep ++ x)
  | [], x => by simp [Lib.join, List.intercalate]
  | [a], x => by simp [Lib.join, List.intercalate]
  | a :: b :: l, x => by
    have h := join_snoc6 sep (b :: l) x
    rw [if_neg (by simp)] at h
    rw [if_neg (by simp)]
    have e : ∀ m : List (List UInt8), m ≠ [] → Lib.join (a :: m) sep = a ++ (sep ++ Lib.join m sep) := fun m hm => by
      cases m with
      | nil => exact absurd rfl hm
      | cons c m => simp [Lib.join, List.intercalate]
    rw [show (a :: b :: l) ++ [x] = a :: ((b :: l) ++ [x]) from rfl, e _ (by simp), h, e _ (by simp)]
    simp
theorem joinedL_step {l : List ByteArray} {k : Nat} {x : ByteArray} (h : l[k]? = some x) : joinedL (l.take (k + 1)) = if k = 0 then x.data.toList else joinedL (l.take k) ++ (47 :: x.data.toList) := by
  obtain ⟨h1, rfl⟩ := List.getElem?_eq_some_iff.1 h
  unfold joinedL
  rw [List.take_succ_eq_append_getElem h1, List.map_append, List.map_cons, List.map_nil, join_snoc6]
  by_cases hk : k = 0
  · subst hk; simp
  · have : ¬ List.map (fun x : ByteArray => x.data.toList) (l.take k) = [] := by
      intro e
      have e2 := List.map_eq_nil_iff.1 e
      have := congrArg List.length e2
      rw [List.length_take, List.length_nil] at this
      omega
    rw [if_neg hk, if_neg this]
    simp
theorem joinedL_len (l : List ByteArray) (h : ∀ x ∈ l, x.size ≤ 12) : ∀ k, k ≤ l.length → (joinedL (l.take k)).length ≤ 13 * k
  | 0, _ => by simp [joinedL, Lib.join, List.intercalate]
  | k + 1, hk => by
    have ih := joinedL_len l h k (by omega)
    have hx : l[k]? = some l[k] := List.getElem?_eq_getElem (by omega)
    have hs2 : (l[k]).data.toList.length ≤ 12 := by rw [size_len]; exact h l[k] (List.getElem_mem _)
    rw [joinedL_step hx]
    split
    · omega
    · rw [List.length_append, List.length_cons]; omega
theorem cat_bytes6 (acc : List UInt8) (t : ByteArray) : (⟨acc.toArray⟩ : ByteArray) ++ t = ⟨(acc ++ t.data.toList).toArray⟩ := by
  apply ByteArray.ext
  simp
theorem ret_s6 {a b : ByteArray} (h : a = b) : Ending.returned (.string a) = .returned (.string b) := by rw [h]
theorem layOk_len {xs : List ByteArray} (h : layOk xs = true) : (1 ≤ xs.length ∧ xs.length ≤ 4) ∧ ∀ x ∈ xs, x.size ≤ 12 := ⟨(layOk_iff.1 h).1, fun x hx => (rowOk6_iff.1 ((layOk_iff.1 h).2.1 x hx)).1.2⟩

set_option maxHeartbeats 800000 in
theorem text6_spec (R : Nat) (A : Option Addr) (n c : Nat) (xs : List ByteArray) (w : World) (hR : w.cell? ⟨R, 0, none⟩ = some (.slice A n c)) (h : Strs w A n xs) (hn : n ≤ 4) (hs : ∀ x ∈ xs, x.size ≤ 12) :
    Calls Try.prog 77 #[.pointer (some ⟨R, 0, none⟩)] w fun e w' => e = .returned (.string ⟨(joinedL xs).toArray⟩) ∧ w = w' := by
  have hl := Lib.hid h.1
  have hlen := Lib.hid (joinedL_len xs hs)
  have hRl : R < w.heap.size := World.block_lt_of_cell? _ _ hR
  replace hs := Lib.hid hs
  go_enter Try.func77, Try.ntmps77
  go_wp2
  go_loop [3, 4] (fun v i => ∃ k : Nat, k ≤ n ∧ i = .int .i64 k ∧ v = .string ⟨(joinedL (xs.take k)).toArray⟩) (fun _ i => n - (intOf i).toNat)
  case atStart => exact ⟨0, by omega, rfl, rfl⟩
  case round =>
    obtain ⟨k, hk, rfl, rfl⟩ := hrel
    by_cases hlt : k < n
    · obtain ⟨b, off, x, rfl, hb, hx, c0⟩ := str_at h hlt
      have hx12 : x.size ≤ 12 := hs.out x (List.mem_of_getElem? hx.out)
      have hst := Lib.hid (joinedL_step hx.out)
      have hlk : (joinedL (xs.take k)).length ≤ 13 * k := hlen.out k (by rw [hl.out]; omega)
      have hk0 : (0 : Int) ≤ (k : Int) := Int.natCast_nonneg _
      generalize hacc : joinedL (xs.take k) = acc at *
      by_cases h0 : k = 0
      · have g0 : decide ((0 : Int) < (k : Int)) = false := decide_eq_false (by omega)
        have g1 : decide (0 < k) = false := decide_eq_false (by omega)
        have hacc0 : acc = [] := by rw [← hacc, h0]; rfl
        subst hacc0
        have hsz : (⟨([] : List UInt8).toArray⟩ : ByteArray).size + x.size ≤ 100 := by show 0 + x.size ≤ 100; omega
        have hnx : Hid ((⟨([] : List UInt8).toArray⟩ : ByteArray) ++ x = ⟨(joinedL (xs.take (k + 1))).toArray⟩) := Lib.hid (by rw [hst.out, if_pos h0, cat_bytes6]; simp)
        clear h0 hacc hst
        go_wp2
        go_round
        case rel => exact ⟨k + 1, by omega, by go_num, by rw [← hnx.out]⟩
        case measure => simp [intOf]; omega
      · have g0 : decide ((0 : Int) < (k : Int)) = true := decide_eq_true (by omega)
        have g1 : decide (0 < k) = true := decide_eq_true (by omega)
        have hsz0 : (⟨acc.toArray⟩ : ByteArray).size = acc.length := by show acc.toArray.size = _; simp
        have hsz : (⟨acc.toArray⟩ : ByteArray).size + 1 ≤ 100 := by omega
        have hsz2 : ((⟨acc.toArray⟩ : ByteArray) ++ ⟨#[47]⟩).size + x.size ≤ 100 := by rw [ByteArray.size_append]; show _ + 1 + _ ≤ 100; omega
        have hnx : Hid ((⟨acc.toArray⟩ : ByteArray) ++ ⟨#[47]⟩ ++ x = ⟨(joinedL (xs.take (k + 1))).toArray⟩) := Lib.hid (by rw [hst.out, if_neg h0, cat_bytes6, cat_bytes6]; simp)
        clear h0 hacc hst
        go_wp2
        go_round
        case rel => exact ⟨k + 1, by omega, by go_num, by rw [← hnx.out]⟩
        case measure => simp [intOf]; omega
    · obtain rfl : k = n := by omega
      have hres : Hid (joinedL (xs.take k) = joinedL xs) := Lib.hid (by rw [List.take_of_length_le (by rw [hl.out]; exact Nat.le_refl _)])
      go_wp2
      go_ret
      exact ⟨by rw [hres.out]; rfl, rfl⟩
theorem ltx_spec (A : Option Addr) (n c : Nat) (xs : List ByteArray) (w : World) (h : Strs w A n xs) (hn : n ≤ 1048576) (hs : ∀ x ∈ xs, x.size ≤ 1048576) :
    Calls Try.prog 45 #[.agg #[.slice A n c]] w fun e w' => e = .returned (.string (ltxR xs)) ∧ Below w.heap.size w w' := by
  have hb0 := Lib.hid (below_a1 w (.cells #[.slice A n c] 27))
  have hS := h.below hb0.out
  have k0 : (w.alloc (.cells #[.slice A n c] 27)).cell? ⟨w.heap.size, 0, none⟩ = some (.slice A n c) := cell_new rfl rfl
  cases h1 : layOk xs with
  | false =>
    have hres : Hid (ltxR xs = ⟨#[]⟩) := Lib.hid (by simp [ltxR, h1])
    have hq := Lib.hid (ok6_spec w.heap.size A n c xs _ (cell_new rfl rfl) hS hn hs false h1)
    clear h1
    go_enter Try.func45, Try.ntmps45
    go_wp2_with fail
    refine hq.out.mono ?_
    rintro e w1 ⟨rfl, hb1⟩
    have hbw := Lib.hid (hb0.out.step hb1)
    go_wp2
    go_ret
    exact ⟨by rw [hres.out]; rfl, hbw.out⟩
  | true =>
    have hres : Hid (ltxR xs = ⟨(joinedL xs).toArray⟩) := Lib.hid (by simp [ltxR, h1])
    have hq := Lib.hid (ok6_spec w.heap.size A n c xs _ (cell_new rfl rfl) hS hn hs true h1)
    obtain ⟨⟨_, h4⟩, h12⟩ := layOk_len h1
    have hq2 := Lib.hid (fun W (hW : W.cell? ⟨w.heap.size, 0, none⟩ = some (.slice A n c)) (hP : Strs W A n xs) => text6_spec w.heap.size A n c xs W hW hP (by rw [h.1] at h4; exact h4) h12)
    clear h1 h4 h12
    go_enter Try.func45, Try.ntmps45
    go_wp2_with fail
    refine hq.out.mono ?_
    rintro e w1 ⟨rfl, hb1⟩
    have hbw := Lib.hid (hb0.out.step hb1)
    have k1 := cell_step k0 hb1
    have hS1 := hS.below hb1
    go_wp2_with fail
    refine (hq2.out _ k1 hS1).mono ?_
    rintro e w2 ⟨rfl, rfl⟩
    go_wp2
    go_ret
    exact ⟨by rw [hres.out]; rfl, hbw.out⟩
theorem ltx_impl (A : Option Addr) (n c : Nat) (xs : List ByteArray) (w : World) (h : Strs w A n xs) (hn : n ≤ 1048576) (hs : ∀ x ∈ xs, x.size ≤ 1048576) :
    Calls Try.prog 46 #[.agg #[.slice A n n]] w fun e w' => e = .returned (.string (ltxR xs)) ∧ Below w.heap.size w w' := by
  have hb0 := Lib.hid (below_a1 w (.cells #[.slice A n n] 27))
  have hS := h.below hb0.out
  have k0 : (w.alloc (.cells #[.slice A n n] 27)).cell? ⟨w.heap.size, 0, none⟩ = some (.slice A n n) := cell_new rfl rfl
  have hq := Lib.hid (valid_impl A n n xs _ hS hn hs)
  cases h1 : layOk xs with
  | false =>
    have hres : Hid (ltxR xs = ⟨#[]⟩) := Lib.hid (by simp [ltxR, h1])
    rw [h1] at hq
    clear h1
    go_enter Try.func46, Try.ntmps46
    go_wp2_with fail
    refine hq.out.mono ?_
    rintro e w1 ⟨rfl, hb1⟩
    have hbw := Lib.hid (hb0.out.step hb1)
    go_wp2
    go_ret
    exact ⟨by rw [hres.out]; rfl, hbw.out⟩
  | true =>
    have hres : Hid (ltxR xs = ⟨(joinedL xs).toArray⟩) := Lib.hid (by simp [ltxR, h1])
    rw [h1] at hq
    obtain ⟨⟨h3, h4⟩, h12⟩ := layOk_len h1
    have hl := h.1
    have hlen := joinedL_len xs h12 n (by omega)
    rw [List.take_of_length_le (by omega)] at hlen
    have hcall : Hid (∀ W, Strs W A n xs → Calls Try.prog 78 #[.slice A n n, .string ⟨#[47]⟩] W fun e w' => e = .returned (.string ⟨(joinedL xs).toArray⟩) ∧ Below W.heap.size W w') := Lib.hid fun W hW => by
      obtain ⟨b, off, rfl, hb, hc⟩ := hW.2 (by omega)
      have := Try.strings_Join b off n xs ⟨#[47]⟩ W (fun j x hx => by
        have := hc j x hx 0 _ rfl
        rwa [Nat.mul_one, Nat.add_zero] at this) hb (by omega) (by omega) (by show (joinedL xs).length ≤ _; omega)
      rw [hl] at this
      exact this
    clear h1 h3 h4 h12 hl hlen
    go_enter Try.func46, Try.ntmps46
    go_wp2_with fail
    refine hq.out.mono ?_
    rintro e w1 ⟨rfl, hb1⟩
    have hbw := Lib.hid (hb0.out.step hb1)
    have k1 := cell_step k0 hb1
    have hS1 := hS.below hb1
    go_wp2_with fail
    refine (hcall.out _ hS1).mono ?_
    rintro e w2 ⟨rfl, hb2⟩
    have hbw2 := Lib.hid (hbw.out.step hb2)
    go_wp2
    go_ret
    exact ⟨by rw [hres.out]; rfl, hbw2.out⟩
end Go.Proofs.Yticggclpaalhgaa
