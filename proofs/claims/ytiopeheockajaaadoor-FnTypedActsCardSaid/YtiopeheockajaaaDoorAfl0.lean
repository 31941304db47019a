/- Acts for a line: the line without blanks at its end, as plain data; texts of bytes from 32 to 126. -/
import Derived.Test.YtiopeheockajaaaDoorCar1
import Derived.Test.YtiopeheockajaaaDoorLet0
import Derived.Test.YtiopeheockajaaaDoorActO
import Derived.OwnWalk
import Derived.Lib.TrimByte
namespace Go.Proofs.YtiopeheockajaaaDoor
open Go.RowKit
set_option linter.unusedVariables false
set_option linter.unusedSimpArgs false

def trimL (l : List UInt8) : List UInt8 := Lib.trimRightB l 32
def trimT (s : ByteArray) : ByteArray := ⟨(trimL s.data.toList).toArray⟩
def actB (b : UInt8) : ActD := if b = 32 then ⟨1, ⟨#[]⟩⟩ else ⟨0, ⟨#[b]⟩⟩
def aflL (l : List UInt8) : List ActD := l.map actB
/-- What ActsForLine returns. -/
def aflR (c : CarriageD) (s : ByteArray) : List ActD × Int :=
  if carOk c = true then (if bytesIn 32 126 s = true ∧ s.size ≤ 300 then (if c.right - c.left < 2 * ((trimL s.data.toList).length : Int) then ([], 5) else (aflL (trimL s.data.toList), 0)) else ([], 2)) else ([], 1)
theorem aflR_1 {c : CarriageD} {s : ByteArray} (h : carOk c = false) : aflR c s = ([], 1) := by simp [aflR, h]
theorem aflR_2 {c : CarriageD} {s : ByteArray} (h : carOk c = true) (h2 : (decide ((s.size : Int) ≤ 300) && bytesIn 32 126 s) = false) : aflR c s = ([], 2) := by
  have : ¬ (bytesIn 32 126 s = true ∧ s.size ≤ 300) := fun q => by
    rw [q.1, decide_eq_true (by omega)] at h2
    cases h2
  rw [aflR, if_pos h, if_neg this]
theorem aflR_3 {c : CarriageD} {s : ByteArray} (h : carOk c = true) (h2 : (decide ((s.size : Int) ≤ 300) && bytesIn 32 126 s) = true) : s.size ≤ 300 ∧ aflR c s = if c.right - c.left < 2 * ((trimL s.data.toList).length : Int) then ([], 5) else (aflL (trimL s.data.toList), 0) := by
  simp only [Bool.and_eq_true, decide_eq_true_eq] at h2
  exact ⟨by omega, by rw [aflR, if_pos h, if_pos ⟨h2.2, by omega⟩]⟩
theorem trim_take (l : List UInt8) : trimL l = l.take (trimL l).length := by
  unfold trimL Lib.trimRightB
  have h : l.reverse.dropWhile (· == 32) <:+ l.reverse := List.dropWhile_suffix _
  have h2 : (l.reverse.dropWhile (· == 32)).reverse <+: l := by
    have := List.reverse_prefix.2 h
    rwa [List.reverse_reverse] at this
  exact (List.prefix_iff_eq_take.1 h2)
theorem trim_len_le (l : List UInt8) : (trimL l).length ≤ l.length := by
  have h := congrArg List.length (trim_take l)
  rw [List.length_take] at h
  omega
theorem trim_end {l : List UInt8} {n : Nat} {b : UInt8} (h : l[n]? = some b) (hc : b = 32) : trimL (l.take (n + 1)) = trimL (l.take n) := by
  obtain ⟨h1, h2⟩ := List.getElem?_eq_some_iff.1 h
  unfold trimL Lib.trimRightB
  rw [List.take_succ_eq_append_getElem h1, List.reverse_append, List.reverse_singleton, List.singleton_append, List.dropWhile_cons, h2, hc]
  simp
theorem trim_stop {l : List UInt8} {n : Nat} {b : UInt8} (h : l[n]? = some b) (hc : ¬ b = 32) : trimL (l.take (n + 1)) = l.take (n + 1) := by
  obtain ⟨h1, h2⟩ := List.getElem?_eq_some_iff.1 h
  unfold trimL Lib.trimRightB
  rw [List.take_succ_eq_append_getElem h1, List.reverse_append, List.reverse_singleton, List.singleton_append, List.dropWhile_cons, h2]
  have : (b == 32) = false := by simpa using hc
  rw [this]
  simp
theorem trim_len_stop {l : List UInt8} {n : Nat} (hn : n ≤ l.length) (hl : trimL l = trimL (l.take n)) (h : n = 0 ∨ ∃ b, l[n - 1]? = some b ∧ ¬ b = 32) : (trimL l).length = n := by
  rcases h with rfl | ⟨b, hb, hne⟩
  · rw [hl]; rfl
  · rcases Nat.eq_zero_or_pos n with h0 | h0
    · subst h0
      rw [hl]; rfl
    · obtain ⟨m, rfl⟩ : ∃ m, n = m + 1 := ⟨n - 1, by omega⟩
      have hb' : l[m]? = some b := hb
      rw [hl, trim_stop hb' hne, List.length_take]
      omega
theorem byte_of {s : ByteArray} {k : Nat} (hk : k < s.size) : s.data.toList[k]? = some (s[k]'hk) := by
  have hk' : k < s.data.size := hk
  rw [Array.getElem?_toList, Array.getElem?_eq_getElem hk']
  rfl
theorem one_byte {s : ByteArray} {k : Nat} (hk : k < s.size) : s.extract k (k + 1) = ⟨#[s[k]'hk]⟩ := by
  have hk' : k < s.data.size := hk
  have h : (s.extract k (k + 1)).data = #[s[k]'hk] := by
    rw [ByteArray.data_extract]
    apply Array.ext
    · simp; omega
    · intro i h1 h2
      simp at h2
      subst h2
      simp
      rfl
  cases hx : s.extract k (k + 1) with
  | mk d => rw [hx] at h; simp only at h; rw [h]
theorem afl_step {l : List UInt8} {k : Nat} {b : UInt8} (h : l[k]? = some b) : aflL (l.take (k + 1)) = aflL (l.take k) ++ [actB b] := by
  obtain ⟨h1, rfl⟩ := List.getElem?_eq_some_iff.1 h
  rw [List.take_succ_eq_append_getElem h1, aflL, List.map_append]
  rfl
theorem afl_len (l : List UInt8) : (aflL l).length = l.length := by simp [aflL]
theorem act_snoc (l : List ActD) (x : ActD) : (l ++ [x]).flatMap ActD.cells = l.flatMap ActD.cells ++ [.int .i64 x.kind, .string x.letter] := by simp [ActD.cells]
theorem act_row {w : World} {base n : Nat} {L : Value} {l : List ActD} (hn : l.length = n) (h : w.ownsRow base 48 2 L n (l.flatMap ActD.cells)) : ∃ A c, L = .slice A n c ∧ OActs w base A n l := by
  subst hn
  exact ORow.of_owns (fun _ => rfl) h
theorem act_ge {w : World} {base : Nat} {E : TypeId} {size n g : Nat} {v : Value} {xs : List Value} (h : w.ownsRow base E size v n xs) (hg : v.ownBlock = some g) : base ≤ g := by
  obtain ⟨_, ⟨rfl, _⟩ | ⟨g', cap, cur, rfl, hb, _⟩⟩ := h
  · cases hg
  · cases hg; exact hb

theorem text_spec (s : ByteArray) (most : Int) (v : Bool) (hv : (decide ((s.size : Int) ≤ most) && bytesIn 32 126 s) = v) (w : World) (hs : s.size ≤ maxLen) :
    Calls Tryd.prog 30 #[.string s, .int .i64 most] w fun e w' => e = .returned (.bool v) ∧ w = w' := by
  unfold maxLen at hs
  have hno : Hid (∀ k (hk : k < s.size), ¬ (32 ≤ (s[k]'hk).toNat ∧ (s[k]'hk).toNat ≤ 126) → v = false) := Lib.hid fun k hk h => by rw [← hv, bytesIn_no hk h, Bool.and_false]
  have hyes : Hid ((∀ k (hk : k < s.size), 32 ≤ (s[k]'hk).toNat ∧ (s[k]'hk).toNat ≤ 126) → v = decide ((s.size : Int) ≤ most)) := Lib.hid fun h => by rw [← hv, bytesIn_yes h, Bool.and_true]
  clear hv
  go_enter Tryd.func30, Tryd.ntmps30
  go_wp2
  go_loop [5] (fun i => ∃ k : Nat, k ≤ s.size ∧ i = .int .i64 k ∧ ∀ j (hj : j < s.size), j < k → 32 ≤ (s[j]'hj).toNat ∧ (s[j]'hj).toNat ≤ 126) (fun i => s.size - (intOf i).toNat)
  case atStart => exact ⟨0, by omega, rfl, fun j hj h => absurd h (by omega)⟩
  case round =>
    obtain ⟨k, hk, rfl, hall⟩ := hrel
    replace hall := Lib.hid hall
    by_cases hlt : k < s.size
    · by_cases h1 : 32 ≤ (s[k]'hlt).toNat
      · have g1 : decide ((s[k]'hlt).toNat < 32) = false := decide_eq_false (by omega)
        have g1' : decide (((s[k]'hlt).toNat : Int) < 32) = false := decide_eq_false (by omega)
        by_cases h2 : (s[k]'hlt).toNat ≤ 126
        · have g2 : decide (126 < (s[k]'hlt).toNat) = false := decide_eq_false (by omega)
          have g2' : decide ((126 : Int) < ((s[k]'hlt).toNat : Int)) = false := decide_eq_false (by omega)
          have hnext : Hid (∀ j (hj : j < s.size), j < k + 1 → 32 ≤ (s[j]'hj).toNat ∧ (s[j]'hj).toNat ≤ 126) := Lib.hid fun j hj h => by
            rcases Nat.lt_or_ge j k with h' | h'
            · exact hall.out j hj h'
            · obtain rfl : j = k := by omega
              exact ⟨h1, h2⟩
          clear h1 h2
          go_wp2
          go_round
          case rel => exact ⟨k + 1, by omega, by go_num, hnext.out⟩
          case measure => simp [intOf]; omega
        · have g2 : decide (126 < (s[k]'hlt).toNat) = true := decide_eq_true (by omega)
          have g2' : decide ((126 : Int) < ((s[k]'hlt).toNat : Int)) = true := decide_eq_true (by omega)
          have hr := Lib.hid (hno.out k hlt fun h => h2 h.2)
          clear h1 h2
          go_wp2
          go_ret
          exact ⟨ret_bo hr.out.symm, rfl⟩
      · have g1 : decide ((s[k]'hlt).toNat < 32) = true := decide_eq_true (by omega)
        have g1' : decide (((s[k]'hlt).toNat : Int) < 32) = true := decide_eq_true (by omega)
        have hr := Lib.hid (hno.out k hlt fun h => h1 h.1)
        clear h1
        go_wp2
        go_ret
        exact ⟨ret_bo hr.out.symm, rfl⟩
    · have hr := Lib.hid (hyes.out fun j hj => hall.out j hj (by omega))
      go_wp2
      go_ret
      exact ⟨ret_bo hr.out.symm, rfl⟩
end Go.Proofs.YtiopeheockajaaaDoor
