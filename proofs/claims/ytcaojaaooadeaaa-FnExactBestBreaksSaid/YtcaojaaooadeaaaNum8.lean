/- Numbers as they are written: without a program. -/
import Derived.Test.YtcaojaaooadeaaaSpl8
import Derived.Test.YtcaojaaooadeaaaTab0
import Derived.Lib.Bytealg
namespace Go.Proofs.Ytcaojaaooadeaaa
set_option linter.unusedVariables false
set_option linter.unusedSimpArgs false

def isD (c : UInt8) : Bool := decide (48 ≤ c.toNat) && decide (c.toNat ≤ 57)
/-- Digits only, and at least one. -/
def dg (l : List UInt8) : Bool := !l.isEmpty && l.all isD
/-- Without a minus in front. -/
def unm : List UInt8 → List UInt8
  | [] => []
  | c :: r => if c.toNat = 45 then r else c :: r
/-- How many bytes are in front of the first point. -/
def pn : List UInt8 → Nat
  | [] => 0
  | c :: r => if c.toNat = 46 then 0 else pn r + 1
theorem pn_le : ∀ l, pn l ≤ l.length
  | [] => Nat.le_refl _
  | c :: r => by
    have := pn_le r
    simp only [pn, List.length_cons]
    split <;> omega
def numL (l : List UInt8) : Bool := dg ((unm l).take (pn (unm l))) && (decide (pn (unm l) = (unm l).length) || dg ((unm l).drop (pn (unm l) + 1)))
theorem dot_no : ∀ l, pn l ≠ l.length → l.all isD = false
  | [], h => absurd rfl h
  | c :: r, h => by
    simp only [pn, List.length_cons] at h
    simp only [List.all_cons]
    by_cases hc : c.toNat = 46
    · have : isD c = false := by simp [isD, hc]
      rw [this, Bool.false_and]
    · rw [if_neg hc] at h
      rw [dot_no r (by omega), Bool.and_false]
theorem dg_no {l : List UInt8} (h : pn l ≠ l.length) : dg l = false := by rw [dg, dot_no l h, Bool.and_false]
theorem spl8_pn : ∀ l, spl8 46 l = if pn l = l.length then [l] else l.take (pn l) :: spl8 46 (l.drop (pn l + 1))
  | [] => rfl
  | c :: r => by
    by_cases hc : c.toNat = 46
    · rw [spl8_dot hc]
      simp only [pn, if_pos hc, List.length_cons, List.take_zero, Nat.zero_add, List.drop_succ_cons, List.drop_zero]
      rw [if_neg (by omega)]
    · rw [spl8_more hc, spl8_pn r]
      simp only [pn, if_neg hc, List.length_cons, List.take_succ_cons, List.drop_succ_cons]
      by_cases hp : pn r = r.length
      · rw [if_pos hp, if_pos (by omega)]
        rfl
      · rw [if_neg hp, if_neg (by omega)]
        rfl
theorem num_spec (u : List UInt8) : ((spl8 46 u).all dg && decide ((spl8 46 u).length ≤ 2)) = (dg (u.take (pn u)) && (decide (pn u = u.length) || dg (u.drop (pn u + 1)))) := by
  rw [spl8_pn u]
  by_cases hp : pn u = u.length
  · rw [if_pos hp, decide_eq_true hp, hp, List.take_length]
    simp
  · rw [if_neg hp, decide_eq_false hp, Bool.false_or]
    generalize u.drop (pn u + 1) = r
    by_cases hr : pn r = r.length
    · rw [spl8_pn r, if_pos hr]
      simp
    · rw [dg_no hr, Bool.and_false]
      have h3 : ¬ (u.take (pn u) :: spl8 46 r).length ≤ 2 := by
        rw [spl8_pn r, if_neg hr]
        have : (spl8 46 (r.drop (pn r + 1))).length ≠ 0 := fun h => spl8_ne _ _ (List.length_eq_zero_iff.1 h)
        simp only [List.length_cons]
        omega
      rw [decide_eq_false h3, Bool.and_false]
theorem num_impl : ∀ l : List UInt8, (dg (unm (l.take (pn l))) && (decide (pn l = l.length) || dg (l.drop (pn l + 1)))) = numL l
  | [] => rfl
  | c :: r => by
    by_cases h5 : c.toNat = 45
    · have h6 : ¬ c.toNat = 46 := by omega
      have e1 : decide (pn r + 1 = r.length + 1) = decide (pn r = r.length) := decide_eq_decide.2 (by omega)
      simp only [numL, unm, if_pos h5, pn, if_neg h6, List.take_succ_cons, List.drop_succ_cons, List.length_cons, e1]
    · simp only [numL, unm, if_neg h5]
      by_cases h6 : c.toNat = 46
      · simp only [pn, if_pos h6, List.take_zero, unm]
      · simp only [pn, if_neg h6, List.take_succ_cons, unm, if_neg h5]
theorem split8_spl (d : Nat) (s : ByteArray) : (split8 d s).map (·.data.toList) = spl8 d s.data.toList := by
  have h := spB8_spl d s s.size 0 0 (by omega) (by omega) (Nat.le_refl _)
  simp only [List.take_zero, List.drop_zero] at h
  rw [consHead8_nil (spl8_ne _ _)] at h
  exact h
theorem split8_size {d : Nat} {s x : ByteArray} (h : x ∈ split8 d s) : x.size ≤ s.size := by
  simp only [split8, List.mem_map] at h
  obtain ⟨y, _, rfl⟩ := h
  simp only [ext8, ByteArray.size_extract]
  omega
def dgB (x : ByteArray) : Bool := dg x.data.toList
theorem num_split (s : ByteArray) : ((split8 46 s).all dgB && decide ((split8 46 s).length ≤ 2)) = (dg (s.data.toList.take (pn s.data.toList)) && (decide (pn s.data.toList = s.data.toList.length) || dg (s.data.toList.drop (pn s.data.toList + 1)))) := by
  rw [← num_spec, ← split8_spl, List.all_map, List.length_map]
  rfl
theorem indexByte_pn : ∀ l : List UInt8, Lib.indexByte l 46 = if pn l = l.length then -1 else (pn l : Int)
  | [] => rfl
  | c :: r => by
    unfold Lib.indexByte
    rw [indexByte_pn r]
    by_cases hc : c.toNat = 46
    · have hb : (c == 46) = true := by
        have : c = 46 := UInt8.toNat_inj.1 (by simpa using hc)
        subst this; rfl
      rw [if_pos hb]
      simp only [pn, if_pos hc, List.length_cons]
      rw [if_neg (by omega)]
      rfl
    · have hb : (c == 46) = false := by
        rw [beq_eq_false_iff_ne]
        rintro rfl
        exact hc rfl
      rw [hb, if_neg (by decide)]
      simp only [pn, if_neg hc, List.length_cons]
      by_cases hp : pn r = r.length
      · simp [hp]
      · have h1 : ¬ pn r + 1 = r.length + 1 := by omega
        have h2 : ((pn r : Int) == -1) = false := beq_eq_false_iff_ne.2 (by omega)
        simp only [if_neg hp, if_neg h1, h2]
        simp

/-- What DecimalStart tells. -/
def decR (s : ByteArray) (c : Int) : Int × Int :=
  if (inR c 0 119 && decide (s.size ≤ 30)) = true then (if numL s.data.toList = true then (if c < (pn s.data.toList : Int) then (0, 5) else (c - pn s.data.toList, 0)) else (0, 7)) else (0, 2)
end Go.Proofs.Ytcaojaaooadeaaa
