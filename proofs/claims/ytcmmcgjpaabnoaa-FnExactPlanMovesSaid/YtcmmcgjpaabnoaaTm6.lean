/- Moves of the carriage: the model's PlanMoves. -/
import Derived.Test.YtcmmcgjpaabnoaaTm4
namespace Go.Proofs.Ytcmmcgjpaabnoaa
open Go.RowKit Go.ChangeShapes Go.WideShapes Go.Deep
set_option linter.unusedVariables false
set_option linter.unusedSimpArgs false

theorem u8_eq11 {a b : UInt8} (h : a = b) : ((a.toNat : Int) == (b.toNat : Int)) = true ∧ (a.toNat == b.toNat) = true := by subst h; simp
theorem u8_ne11 {a b : UInt8} (h : a ≠ b) : ((a.toNat : Int) == (b.toNat : Int)) = false ∧ (a.toNat == b.toNat) = false := by
  have : a.toNat ≠ b.toNat := fun hh => h (UInt8.toNat_inj.1 hh)
  exact ⟨beq_eq_false_iff_ne.2 (by omega), beq_eq_false_iff_ne.2 this⟩
/-- Is the byte in the text? -/
def hasByte (s : ByteArray) (c : UInt8) : Prop := c ∈ s.data.toList
theorem idx11 (s : ByteArray) (c : UInt8) (w : World) (hs : s.size ≤ 1048576) :
    Calls Try.prog 50 #[.string s, .int .u8 (c.toNat : Int)] w fun e w' => ∃ q : Int, e = .returned (.int .i64 q) ∧ (hasByte s c ↔ 0 ≤ q) ∧ w = w' := by
  go_enter Try.func50, Try.ntmps50
  go_wp2
  go_loop [5] (fun i => ∃ k : Nat, k ≤ s.size ∧ i = .int .i64 k ∧ ∀ j : Nat, j < k → s.data.toList[j]? ≠ some c) (fun i => s.size - (intOf i).toNat)
  case atStart => exact ⟨0, by omega, rfl, fun j hj => absurd hj (by omega)⟩
  case round =>
    obtain ⟨k, hk, rfl, hall⟩ := hrel
    replace hall := Lib.hid hall
    by_cases hlt : k < s.size
    · have hby := Lib.hid (byte_of hlt)
      by_cases hc : s[k]'hlt = c
      · have hr : Hid (hasByte s c ↔ (0 : Int) ≤ (k : Int)) := Lib.hid ⟨fun _ => by omega, fun _ => List.mem_of_getElem? (by rw [hby.out, hc])⟩
        obtain ⟨e1, e2⟩ := u8_eq11 hc
        clear hc
        go_wp2
        go_ret
        exact ⟨_, rfl, hr.out, rfl⟩
      · have hnext : Hid (∀ j : Nat, j < k + 1 → s.data.toList[j]? ≠ some c) := Lib.hid fun j hj => by
          rcases Nat.lt_or_ge j k with h' | h'
          · exact hall.out j h'
          · obtain rfl : j = k := by omega
            rw [hby.out]
            exact fun h => hc (Option.some.inj h)
        obtain ⟨e1, e2⟩ := u8_ne11 hc
        clear hc
        go_wp2
        go_round
        case rel => exact ⟨k + 1, by omega, by go_num, hnext.out⟩
        case measure => simp [intOf]; omega
    · have hr : Hid (hasByte s c ↔ (0 : Int) ≤ -1) := Lib.hid ⟨fun hm => by
        obtain ⟨j, hj⟩ := List.getElem?_of_mem hm
        have hlt2 := (List.getElem?_eq_some_iff.1 hj).1
        exact absurd hj (hall.out j (by have : s.data.toList.length = s.size := rfl; omega)), fun h => absurd h (by decide)⟩
      go_wp2
      go_ret
      exact ⟨_, rfl, hr.out, rfl⟩
/-- Is it a move? -/
def mvQ (c : UInt8) : Bool := decide (c.toNat = 35) || (decide (c.toNat = 60) || decide (c.toNat = 62))
def letQ (c : UInt8) : Bool := decide (33 ≤ c.toNat) && decide (c.toNat ≤ 126)
theorem mvQ_mem (c : UInt8) : hasByte ⟨#[35, 60, 62]⟩ c ↔ mvQ c = true := by
  show c ∈ (⟨#[35, 60, 62]⟩ : ByteArray).data.toList ↔ mvQ c = true
  have hb : ∀ b : UInt8, ∀ n, n < 256 → (c = UInt8.ofNat n ↔ c.toNat = n) := fun _ n hn => ⟨fun h => by rw [h]; simp; omega, fun h => by rw [← h]; simp⟩
  simp only [mvQ, Bool.or_eq_true, decide_eq_true_eq, List.mem_cons, List.not_mem_nil, or_false]
  rw [← hb c 35 (by omega), ← hb c 60 (by omega), ← hb c 62 (by omega)]
  exact Iff.rfl
/-- The number of moves of what is left of a plan. -/
def pmF : List UInt8 → Option Nat
  | [] => some 0
  | [m] => if m.toNat = 39 then none else if mvQ m = true then some 1 else none
  | m :: c :: r => if m.toNat = 39 then (if letQ c = true then pmF r else none) else if mvQ m = true then (pmF (c :: r)).map (· + 1) else none
def pmR (s : ByteArray) : Int × Int := if 200 < s.size then (0, 7) else match pmF s.data.toList with | some n => ((n : Int), 0) | none => (0, 7)
theorem pm_move {l : List UInt8} {k : Nat} {m : UInt8} (h : l[k]? = some m) (h39 : ¬ m.toNat = 39) : pmF (l.drop k) = if mvQ m = true then (pmF (l.drop (k + 1))).map (· + 1) else none := by
  obtain ⟨h1, rfl⟩ := List.getElem?_eq_some_iff.1 h
  rw [List.drop_eq_getElem_cons h1]
  cases hd : l.drop (k + 1) with
  | nil => simp only [pmF, if_neg h39]; rfl
  | cons c r => rw [pmF, if_neg h39]
theorem pm_end {l : List UInt8} {k : Nat} {m : UInt8} (h : l[k]? = some m) (h39 : m.toNat = 39) (hk : l.length = k + 1) : pmF (l.drop k) = none := by
  obtain ⟨h1, rfl⟩ := List.getElem?_eq_some_iff.1 h
  rw [List.drop_eq_getElem_cons h1, List.drop_of_length_le (by omega), pmF, if_pos h39]
theorem pm_letter {l : List UInt8} {k : Nat} {m c : UInt8} (h : l[k]? = some m) (h39 : m.toNat = 39) (hc : l[k + 1]? = some c) : pmF (l.drop k) = if letQ c = true then pmF (l.drop (k + 2)) else none := by
  obtain ⟨h1, rfl⟩ := List.getElem?_eq_some_iff.1 h
  obtain ⟨h2, rfl⟩ := List.getElem?_eq_some_iff.1 hc
  rw [List.drop_eq_getElem_cons h1, List.drop_eq_getElem_cons h2, pmF, if_pos h39]
set_option maxHeartbeats 3200000 in
theorem pm11_spec (s : ByteArray) (w : World) (hs : s.size ≤ 1048576) :
    Calls Try.prog 21 #[.string s] w fun e w' => e = .returned (.tuple #[.int .i64 (pmR s).1, .int .i64 (pmR s).2]) ∧ Below w.heap.size w w' := by
  generalize hr : pmR s = r
  replace hr := Lib.hid hr.symm
  by_cases h200 : 200 < s.size
  · have hbad : Hid (r = (0, 7)) := Lib.hid (by rw [hr.out, pmR, if_pos h200])
    have g1 : decide ((200 : Int) < (s.size : Int)) = true := decide_eq_true (by omega)
    have g2 : decide (200 < s.size) = true := decide_eq_true h200
    replace h200 := Lib.hid h200
    go_enter Try.func21, Try.ntmps21
    go_wp2
    go_ret2
    exact ⟨ret8_2 hbad.out, Below.refl _ _⟩
  · have hres : Hid (r = match pmF s.data.toList with | some n => ((n : Int), 0) | none => (0, 7)) := Lib.hid (by rw [hr.out, pmR, if_neg h200])
    have g1 : decide ((200 : Int) < (s.size : Int)) = false := decide_eq_false (by omega)
    have g2 : decide (200 < s.size) = false := decide_eq_false h200
    have h200' : s.size ≤ 200 := by omega
    replace h200 := Lib.hid h200
    go_enter Try.func21, Try.ntmps21
    go_wp2
    go_loopw [4, 5] (fun v i wr => ∃ (k m : Nat), k ≤ s.size ∧ m ≤ k ∧ i = .int .i64 (k : Int) ∧ v = .int .i64 (m : Int) ∧ w = wr ∧ pmF s.data.toList = (pmF (s.data.toList.drop k)).map (fun x => m + x)) (fun _ i _ => s.size - (intOf i).toNat)
    case atStart => exact ⟨0, 0, by omega, by omega, rfl, rfl, rfl, by simp⟩
    case round =>
      obtain ⟨k, m, hk, hm, rfl, rfl, rfl, he⟩ := hrel
      by_cases hlt : k < s.size
      · have hk0 : (0 : Int) ≤ (k : Int) := Int.natCast_nonneg _
        have hk1 : (k : Int) < (s.size : Int) := by omega
        have hby := byte_of hlt
        by_cases h39 : (s[k]'hlt).toNat = 39
        · have b1 : (((s[k]'hlt).toNat : Int) == 39) = true := beq_iff_eq.2 (by omega)
          have b3 : ((s[k]'hlt).toNat == 39) = true := beq_iff_eq.2 h39
          by_cases hend : k + 1 = s.size
          · have hbad : Hid (r = (0, 7)) := Lib.hid (by rw [hres.out, he, pm_end hby h39 (by show s.size = k + 1; omega)]; rfl)
            have e1 : (((k : Int) + 1) == (s.size : Int)) = true := beq_iff_eq.2 (by omega)
            have e2 : (((k + 1 : Nat) : Int) == (s.size : Int)) = true := beq_iff_eq.2 (by omega)
            have e3 : (k + 1 == s.size) = true := beq_iff_eq.2 hend
            replace h39 := Lib.hid h39
            replace hby := Lib.hid hby
            replace he := Lib.hid he
            replace hend := Lib.hid hend
            go_wp2
            go_ret2
            exact ⟨ret8_2 hbad.out, Below.refl _ _⟩
          · have hlt1 : k + 1 < s.size := by omega
            have e1 : (((k : Int) + 1) == (s.size : Int)) = false := beq_eq_false_iff_ne.2 (by omega)
            have e2 : (((k + 1 : Nat) : Int) == (s.size : Int)) = false := beq_eq_false_iff_ne.2 (by omega)
            have e3 : (k + 1 == s.size) = false := beq_eq_false_iff_ne.2 hend
            have i0 : (0 : Int) ≤ (k : Int) + 1 := by omega
            have i1 : (k : Int) + 1 < (s.size : Int) := by omega
            have i2 : ((k : Int) + 1).toNat = k + 1 := by omega
            have hst := pm_letter hby h39 (byte_of hlt1)
            rw [hst] at he
            replace h39 := Lib.hid h39
            replace hby := Lib.hid hby
            replace hend := Lib.hid hend
            by_cases h33 : (s[k + 1]'hlt1).toNat < 33
            · have hbad : Hid (r = (0, 7)) := Lib.hid (by rw [hres.out, he, if_neg (by simp [letQ]; omega)]; rfl)
              have f1 : decide (((s[k + 1]'hlt1).toNat : Int) < 33) = true := decide_eq_true (by omega)
              have f2 : decide ((s[k + 1]'hlt1).toNat < 33) = true := decide_eq_true h33
              replace he := Lib.hid he
              replace h33 := Lib.hid h33
              go_wp2
              go_ret2
              exact ⟨ret8_2 hbad.out, Below.refl _ _⟩
            · have f1 : decide (((s[k + 1]'hlt1).toNat : Int) < 33) = false := decide_eq_false (by omega)
              have f2 : decide ((s[k + 1]'hlt1).toNat < 33) = false := decide_eq_false h33
              by_cases h126 : 126 < (s[k + 1]'hlt1).toNat
              · have hbad : Hid (r = (0, 7)) := Lib.hid (by rw [hres.out, he, if_neg (by simp [letQ]; omega)]; rfl)
                have f3 : decide ((126 : Int) < ((s[k + 1]'hlt1).toNat : Int)) = true := decide_eq_true (by omega)
                have f4 : decide (126 < (s[k + 1]'hlt1).toNat) = true := decide_eq_true h126
                replace he := Lib.hid he
                replace h33 := Lib.hid h33
                replace h126 := Lib.hid h126
                go_wp2
                go_ret2
                exact ⟨ret8_2 hbad.out, Below.refl _ _⟩
              · have hnx : Hid (pmF s.data.toList = (pmF (s.data.toList.drop (k + 2))).map (fun x => m + x)) := Lib.hid (by rw [he, if_pos (by simp [letQ]; omega)])
                have f3 : decide ((126 : Int) < ((s[k + 1]'hlt1).toNat : Int)) = false := decide_eq_false (by omega)
                have f4 : decide (126 < (s[k + 1]'hlt1).toNat) = false := decide_eq_false h126
                replace he := Lib.hid he
                replace h33 := Lib.hid h33
                replace h126 := Lib.hid h126
                go_wp2
                go_roundw
                case rel => exact ⟨k + 2, m, by omega, by omega, by go_num, rfl, (by first | trivial | rfl), hnx.out⟩
                case measure => simp [intOf]; omega
        · have b1 : (((s[k]'hlt).toNat : Int) == 39) = false := beq_eq_false_iff_ne.2 (by omega)
          have b3 : ((s[k]'hlt).toNat == 39) = false := beq_eq_false_iff_ne.2 h39
          have hst := pm_move hby h39
          rw [hst] at he
          have hix := Lib.hid (fun W => idx11 ⟨#[35, 60, 62]⟩ (s[k]'hlt) W (by decide))
          have hmq := Lib.hid (mvQ_mem (s[k]'hlt))
          replace h39 := Lib.hid h39
          replace hby := Lib.hid hby
          cases hq : mvQ (s[k]'hlt) with
          | false =>
            have hbad : Hid (r = (0, 7)) := Lib.hid (by rw [hres.out, he, hq]; rfl)
            replace he := Lib.hid he
            have hqq := Lib.hid hq
            clear hq
            go_wp2_with fail
            refine (hix.out _).mono ?_
            rintro e w1 ⟨q, rfl, hqi, rfl⟩
            have hq0 : q < 0 := by
              have : ¬ (0 ≤ q) := fun h => by have := hmq.out.1 (hqi.2 h); rw [hqq.out] at this; cases this
              omega
            have f1 : decide (q < 0) = true := decide_eq_true hq0
            replace hqi := Lib.hid hqi
            go_wp2
            go_ret2
            exact ⟨ret8_2 hbad.out, Below.refl _ _⟩
          | true =>
            have hnx : Hid (pmF s.data.toList = (pmF (s.data.toList.drop (k + 1))).map (fun x => (m + 1) + x)) := Lib.hid (by
              rw [he, hq, if_pos rfl, Option.map_map]
              congr 1
              funext x
              simp only [Function.comp]
              omega)
            replace he := Lib.hid he
            have hqq := Lib.hid hq
            have hwm : IntKind.i64.wrap ((m : Int) + 1) = ((m + 1 : Nat) : Int) := by rw [IntWalk.i64_in _ (by omega)]; omega
            clear hq
            go_wp2_with fail
            refine (hix.out _).mono ?_
            rintro e w1 ⟨q, rfl, hqi, rfl⟩
            have hq0 : ¬ q < 0 := by
              have := hqi.1 (hmq.out.2 hqq.out)
              omega
            have f1 : decide (q < 0) = false := decide_eq_false hq0
            replace hqi := Lib.hid hqi
            go_wp2
            go_roundw
            case rel => exact ⟨k + 1, m + 1, by omega, by omega, by go_num, by first | rfl | go_num, (by first | trivial | rfl), hnx.out⟩
            case measure => simp [intOf]; omega
      · obtain rfl : k = s.size := by omega
        have gk : ¬ (s.size : Int) < (s.size : Int) := by omega
        have hgood : Hid (r = ((m : Int), 0)) := Lib.hid (by
          rw [List.drop_of_length_le (show s.data.toList.length ≤ s.size from Nat.le_refl _)] at he
          rw [hres.out, he]; rfl)
        replace he := Lib.hid he
        go_wp2
        go_ret2
        exact ⟨ret8_2 hgood.out, Below.refl _ _⟩
end Go.Proofs.Ytcmmcgjpaabnoaa
