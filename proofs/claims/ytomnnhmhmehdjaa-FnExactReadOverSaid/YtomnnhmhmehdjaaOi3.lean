/- Corrections: rules are read back from their texts by the program. -/
import Derived.Test.YtomnnhmhmehdjaaOi2
namespace Go.Proofs.Ytomnnhmhmehdjaa
open Go.RowKit Go.ChangeShapes Go.WideShapes Go.Deep
set_option linter.unusedVariables false
set_option linter.unusedSimpArgs false

theorem ro_same {s : ByteArray} (h5 : s.size = 5) : roR s = if ((otR (overOf s)).toList == s.toList) = true then (overOf s, true) else (overZ, false) := by
  obtain ⟨⟨l⟩⟩ := s
  match l, h5 with
  | [a, b, c, d, e], h5 =>
    have e1 : overOf ⟨⟨[a, b, c, d, e]⟩⟩ = ⟨⟨#[a]⟩, ⟨#[c]⟩, ⟨#[e]⟩⟩ := rfl
    have b1 : bAt ⟨⟨[a, b, c, d, e]⟩⟩ 1 = b := rfl
    have b3 : bAt ⟨⟨[a, b, c, d, e]⟩⟩ 3 = d := rfl
    rw [roR, if_pos h5, b1, b3, otR, e1]
    cases h1 : oneB ⟨⟨#[a]⟩, ⟨#[c]⟩, ⟨#[e]⟩⟩ with
    | false =>
      have hn : ((ByteArray.empty).toList == (⟨⟨[a, b, c, d, e]⟩⟩ : ByteArray).toList) = false := by
        rw [ByteArray.toList_eq, ByteArray.toList_eq]; rfl
      simp only [if_neg (show ¬ (false = true) from Bool.noConfusion), hn, ite_self]
    | true =>
      have hc : ((⟨#[a]⟩ : ByteArray) ++ ⟨#[60]⟩ ++ ⟨#[c]⟩ ++ ⟨#[61]⟩ ++ ⟨#[e]⟩) = ⟨#[a, 60, c, 61, e]⟩ := by apply bytes_eq; simp
      have hn : ((⟨#[a, 60, c, 61, e]⟩ : ByteArray).toList == (⟨⟨[a, b, c, d, e]⟩⟩ : ByteArray).toList) = (decide (b.toNat = 60) && decide (d.toNat = 61)) := by
        rw [ByteArray.toList_eq, ByteArray.toList_eq]
        rw [Bool.eq_iff_iff, beq_iff_eq, Bool.and_eq_true, decide_eq_true_iff, decide_eq_true_iff]
        simp only [List.cons.injEq, and_true, true_and]
        constructor
        · rintro ⟨rfl, rfl⟩; exact ⟨rfl, rfl⟩
        · rintro ⟨h6, h7⟩; exact ⟨UInt8.toNat_inj.1 h6.symm, UInt8.toNat_inj.1 h7.symm⟩
      simp only [if_true, hc, hn]
      by_cases hb : b.toNat = 60 <;> by_cases hd : d.toNat = 61 <;> simp [hb, hd]
end Go.Proofs.Ytomnnhmhmehdjaa
