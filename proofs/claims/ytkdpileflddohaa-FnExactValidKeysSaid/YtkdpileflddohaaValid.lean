/- What ValidKeys answers, in the program and in the model. -/
import Derived.Test.YtkdpileflddohaaKbNew
namespace Go.Proofs.Ytkdpileflddohaa
open Go.RowKit
set_option linter.unusedVariables false
set_option linter.unusedSimpArgs false

theorem valid_spec (A : Option Addr) (n c : Nat) (ks : List KeyD) (B : Option Addr) (m d : Nat) (as_ : List AccentD) (w : World) (h : Keys w A n ks) (hn : n ≤ 1048576) (hgk : ∀ x ∈ ks, x.good) (hAs : Accents w B m as_) (hm : m ≤ 1048576) (hga : ∀ x ∈ as_, x.good) (hc : n ≤ c) :
    Calls Try.prog 37 #[.slice A n c, .slice B m d] w fun e w' => e = .returned (.bool (validKb ks as_)) ∧ Below w.heap.size w w' := by
  have hok := Lib.hid (ok_keys A B n c m d ks as_ w h hAs hn hm hc hgk hga)
  go_enter Try.func37, Try.ntmps37
  go_wp2_with fail
  refine hok.out.mono ?_
  rintro e w1 ⟨rfl, hb⟩
  go_wp2
  go_ret
  exact ⟨rfl, hb⟩
theorem valid_impl (A : Option Addr) (n c : Nat) (ks : List KeyD) (B : Option Addr) (m d : Nat) (as_ : List AccentD) (w : World) (h : Keys w A n ks) (hn : n ≤ 1048576) (hgk : ∀ x ∈ ks, x.good) (hAs : Accents w B m as_) (hm : m ≤ 1048576) (hga : ∀ x ∈ as_, x.good) :
    Calls Try.prog 40 #[.slice A n c, .slice B m d] w fun e w' => e = .returned (.bool (validKb ks as_)) ∧ Below w.heap.size w w' := by
  have hok := Lib.hid (new_kb_yes A B n c m d ks as_ w h hAs hn hm hgk hga _ rfl)
  go_enter Try.func40, Try.ntmps40
  go_wp2_with fail
  refine hok.out.mono ?_
  rintro e w1 ⟨hb, x1, x2, x3, rfl, hy⟩
  clear hy
  go_wp2
  go_ret
  exact ⟨rfl, hb.trans ((below_a1 _ _).mono hb.size)⟩
theorem valid_spec_m (A : Option Addr) (n c : Nat) (ks : List KeyD) (B : Option Addr) (m d : Nat) (as_ : List AccentD) (w : World) (h : Keys w A n ks) (hn : n ≤ 1048576) (hgk : ∀ x ∈ ks, x.good) (hAs : Accents w B m as_) (hm : m ≤ 1048576) (hga : ∀ x ∈ as_, x.good) :
    Calls Try.prog 37 #[.slice A n n, .slice B m d] w fun e w' => e = .returned (.bool (validKb ks as_)) ∧ Below w.heap.size w w' := valid_spec A n n ks B m d as_ w h hn hgk hAs hm hga (Nat.le_refl _)
end Go.Proofs.Ytkdpileflddohaa
