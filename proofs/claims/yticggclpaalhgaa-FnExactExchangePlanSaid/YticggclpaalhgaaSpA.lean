/- The model's layouts: where a letter is, rows, and what is valid. -/
import Derived.Test.YticggclpaalhgaaRdB
namespace Go.Proofs.Yticggclpaalhgaa
open Go.RowKit Go.ChangeMaps Go.MapKept
set_option linter.unusedVariables false
set_option linter.unusedSimpArgs false

def atI (o : Option (Nat × Nat)) : Int × Int := match o with | some p => ((p.1 : Int), (p.2 : Int)) | none => (-1, -1)
theorem at_next {x y : UInt8} {r k : Nat} {l : List UInt8} {K : Spots} (h : ¬ y = x) : look6 x (rowKeys r k (y :: l) ++ K) = look6 x (rowKeys r (k + 1) l ++ K) := by
  simp only [rowKeys, List.cons_append, look6]
  rw [if_neg (fun e => h e.symm)]
theorem at_here {x : UInt8} {r k : Nat} {l : List UInt8} {K : Spots} : look6 x (rowKeys r k (x :: l) ++ K) = some (r, k) := by
  simp [rowKeys, List.cons_append, look6]
theorem keys_drop {xs : List ByteArray} {r : Nat} {s : ByteArray} (h : xs[r]? = some s) : keysFrom r (xs.drop r) = rowKeys r 0 (s.data.toList.drop 0) ++ keysFrom (r + 1) (xs.drop (r + 1)) := by
  obtain ⟨h1, h2⟩ := List.getElem?_eq_some_iff.1 h
  rw [List.drop_eq_getElem_cons h1, h2]
  rfl
theorem ret_at {a b : Int} {o o' : Option (Nat × Nat)} (h : o = o') (h1 : (atI o').1 = a) (h2 : (atI o').2 = b) : Ending.returned (.tuple #[.int .i64 a, .int .i64 b]) = .returned (.tuple #[.int .i64 (atI o).1, .int .i64 (atI o).2]) := by rw [h, h1, h2]

set_option maxHeartbeats 800000 in
theorem at_spec (A : Option Addr) (n c : Nat) (xs : List ByteArray) (x : UInt8) (w : World) (h : Strs w A n xs) (hn : n ≤ 1048576) (hs : ∀ s ∈ xs, s.size ≤ 1048576) (o : Option (Nat × Nat)) (ho : look6 x (keysFrom 0 xs) = o) :
    Calls Try.prog 57 #[.slice A n c, .int .u8 (x.toNat : Int)] w fun e w' => e = .returned (.tuple #[.int .i64 (atI o).1, .int .i64 (atI o).2]) ∧ w = w' := by
  have hl := Lib.hid h.1
  replace hs := Lib.hid hs
  replace ho := Lib.hid ho
  have hx := x.toNat_lt
  go_enter Try.func57, Try.ntmps57
  go_wp2
  go_loop [6, 7] (fun i _ => ∃ r : Nat, r ≤ n ∧ i = .int .i64 r ∧ o = look6 x (keysFrom r (xs.drop r))) (fun i _ => n - (intOf i).toNat)
  case atStart => exact ⟨0, by omega, rfl, ho.out.symm⟩
  case round =>
    obtain ⟨r, hr, rfl, he⟩ := hrel
    replace he := Lib.hid he
    clear ho
    by_cases hlt : r < n
    · obtain ⟨b, off, s, rfl, hb, hx', c0⟩ := str_at h hlt
      have hsz : s.size ≤ 1048576 := hs.out s (List.mem_of_getElem? hx'.out)
      have hk := Lib.hid (keys_drop hx'.out)
      rw [hk.out] at he
      generalize hK : keysFrom (r + 1) (xs.drop (r + 1)) = K at *
      replace hK := Lib.hid hK
      have hr0 : (0 : Int) ≤ (r : Int) := Int.natCast_nonneg _
      have hr1 : (r : Int) < (n : Int) := by omega
      go_wp2
      go_loop [7] (fun j => ∃ k : Nat, k ≤ s.size ∧ j = .int .i64 k ∧ o = look6 x (rowKeys r k (s.data.toList.drop k) ++ K)) (fun j => s.size - (intOf j).toNat)
      case atStart => exact ⟨0, by omega, rfl, he.out⟩
      case round =>
        obtain ⟨k, hk2, rfl, he2⟩ := hrel
        replace he2 := Lib.hid he2
        by_cases hlt2 : k < s.size
        · have hd := Lib.hid (bytes_drop s hlt2)
          rw [hd.out] at he2
          by_cases hq : s[k]'hlt2 = x
          · have hres : Hid (o = some (r, k)) := Lib.hid (by rw [he2.out, hq]; exact at_here)
            have g : (((s[k]'hlt2).toNat : Int) == (x.toNat : Int)) = true := by rw [hq]; exact beq_self_eq_true _
            clear hq he2 hd he hk
            go_wp2
            go_ret2
            exact ⟨ret_at hres.out rfl rfl, rfl⟩
          · have hnx := Lib.hid (he2.out.trans (at_next hq))
            have g : (((s[k]'hlt2).toNat : Int) == (x.toNat : Int)) = false := beq_eq_false_iff_ne.2 (fun e => hq (UInt8.toNat_inj.1 (by omega)))
            clear hq he2 hd he hk
            go_wp2
            go_round
            case rel => exact ⟨k + 1, by omega, by go_num, hnx.out⟩
            case measure => simp [intOf]; omega
        · obtain rfl : k = s.size := by omega
          have hnx : Hid (o = look6 x K) := Lib.hid (by rw [he2.out, List.drop_of_length_le (by rw [size_len]; exact Nat.le_refl _)]; rfl)
          clear he2 he hk
          go_wp2
          go_round
          case rel => exact ⟨r + 1, by omega, by go_num, by rw [hnx.out, hK.out]⟩
          case measure => simp [intOf]; omega
    · obtain rfl : r = n := by omega
      have hres : Hid (o = none) := Lib.hid (by rw [he.out, List.drop_of_length_le (by rw [hl.out]; exact Nat.le_refl _)]; rfl)
      clear he
      go_wp2
      go_ret2
      exact ⟨ret_at hres.out rfl rfl, rfl⟩

theorem ext_one6 {s : ByteArray} {k : Nat} (hk : k < s.size) : s.extract k (k + 1) = ⟨#[s[k]'hk]⟩ := by
  apply ByteArray.ext
  rw [ByteArray.data_extract]
  apply Array.ext
  · simp only [Array.size_extract, List.size_toArray, List.length_cons, List.length_nil]
    have : s.size = s.data.size := rfl
    omega
  · intro i h1 h2
    simp only [List.size_toArray, List.length_cons, List.length_nil] at h2
    obtain rfl : i = 0 := by omega
    simp
    rfl
theorem isLet_byte (c : UInt8) : isLet ⟨#[c]⟩ = (decide (33 ≤ c.toNat) && decide (c.toNat ≤ 126)) := rfl
theorem keyByte_let (c : UInt8) : keyByte c = (isLet ⟨#[c]⟩ && !decide (c.toNat = 47)) := rfl
theorem all_stop {l : List UInt8} {p : UInt8 → Bool} {k : Nat} {c : UInt8} (h : l[k]? = some c) (hp : p c = false) : l.all p = false := by
  rw [List.all_eq_false]
  exact ⟨c, List.mem_of_getElem? h, by simp [hp]⟩
theorem all_end {s : ByteArray} {p : UInt8 → Bool} (h : ∀ k (hk : k < s.size), p (s[k]'hk) = true) : s.data.toList.all p = true := by
  rw [List.all_eq_true]
  intro c hc
  obtain ⟨k, hk, rfl⟩ := List.getElem_of_mem hc
  exact h k (by rw [← size_len]; exact hk)
set_option maxHeartbeats 800000 in
theorem row_spec (s : ByteArray) (w : World) (hs : s.size ≤ 1048576) (v : Bool) (hv : rowOk6 s = v) :
    Calls Try.prog 79 #[.string s] w fun e w' => e = .returned (.bool v) ∧ w = w' := by
  replace hv := Lib.hid hv
  go_enter Try.func79, Try.ntmps79
  go_wp2
  go_loop [3] (fun i => ∃ k : Nat, k ≤ s.size ∧ i = .int .i64 k ∧ ∀ j (hj : j < s.size), j < k → keyByte (s[j]'hj) = true) (fun i => s.size - (intOf i).toNat)
  case atStart => exact ⟨0, by omega, rfl, fun j hj h => absurd h (by omega)⟩
  case round =>
    obtain ⟨k, hk, rfl, hall⟩ := hrel
    replace hall := Lib.hid hall
    by_cases hlt : k < s.size
    · have hsl := fun W => run_slice_string (P := Try.prog) W 9 s .i64 .i64 (k : Int) ((k : Int) + 1) Try.underlying9 (by omega) (by omega) (by omega)
      rw [show (k : Int).toNat = k from rfl, show ((k : Int) + 1).toNat = k + 1 from rfl, ext_one6 hlt] at hsl
      have hk0 : (0 : Int) ≤ (k : Int) := Int.natCast_nonneg _
      have hk1 : (k : Int) < (s.size : Int) := by omega
      have hat := Lib.hid (bytes_at s hlt)
      have hval := Lib.hid (keyByte_let (s[k]'hlt))
      cases h1 : isLet ⟨#[s[k]'hlt]⟩ with
      | false =>
        have hq := Lib.hid (fun W => letter_spec ⟨#[s[k]'hlt]⟩ false h1 W (by show 1 ≤ maxLen; unfold maxLen; omega))
        have hres : Hid (v = false) := Lib.hid (by rw [← hv.out, rowOk6, all_stop hat.out (by rw [hval.out, h1]; rfl)]; simp)
        clear hval hat h1
        go_wp2_with fail
        refine (hq.out _).mono ?_
        rintro e w1 ⟨rfl, rfl⟩
        go_wp2
        go_ret
        exact ⟨ret_bo hres.out.symm, rfl⟩
      | true =>
        have hq := Lib.hid (fun W => letter_spec ⟨#[s[k]'hlt]⟩ true h1 W (by show 1 ≤ maxLen; unfold maxLen; omega))
        by_cases h47 : (s[k]'hlt).toNat = 47
        · have hres : Hid (v = false) := Lib.hid (by rw [← hv.out, rowOk6, all_stop hat.out (by rw [hval.out, h47]; simp)]; simp)
          have g : (((s[k]'hlt).toNat : Int) == 47) = true := by rw [h47]; rfl
          clear hval hat h1 h47
          go_wp2_with fail
          refine (hq.out _).mono ?_
          rintro e w1 ⟨rfl, rfl⟩
          go_wp2
          go_ret
          exact ⟨ret_bo hres.out.symm, rfl⟩
        · have g : (((s[k]'hlt).toNat : Int) == 47) = false := beq_eq_false_iff_ne.2 (by omega)
          have hnx : Hid (∀ j (hj : j < s.size), j < k + 1 → keyByte (s[j]'hj) = true) := Lib.hid fun j hj h => by
            rcases Nat.lt_or_ge j k with h' | h'
            · exact hall.out j hj h'
            · obtain rfl : j = k := by omega
              rw [hval.out, h1]
              simp [h47]
          clear hval hat h1 h47
          go_wp2_with fail
          refine (hq.out _).mono ?_
          rintro e w1 ⟨rfl, rfl⟩
          go_wp2
          go_round
          case rel => exact ⟨k + 1, by omega, by go_num, hnx.out⟩
          case measure => simp [intOf]; omega
    · obtain rfl : k = s.size := by omega
      have hin : isIn (s.size : Int) 1 12 = v := by
        rw [← hv.out, rowOk6, all_end (fun j hj => hall.out j hj hj), Bool.and_true]
        unfold isIn
        congr 1
        · exact decide_eq_decide.2 (by omega)
        · exact decide_eq_decide.2 (by omega)
      have hq := Lib.hid (fun W => in_spec hin W)
      clear hin
      go_wp2_with fail
      refine (hq.out _).mono ?_
      rintro e w1 ⟨rfl, rfl⟩
      go_wp2
      go_ret
      exact ⟨rfl, rfl⟩
end Go.Proofs.Yticggclpaalhgaa
