/- Corrections: what is seen, and what is typed over. -/
import Derived.Test.YtomnnhmhmehdjaaCo4
namespace Go.Proofs.Ytomnnhmhmehdjaa
open Go.RowKit Go.ChangeShapes Go.WideShapes Go.Deep
set_option linter.unusedVariables false
set_option linter.unusedSimpArgs false

def byC (s : ByteArray) : Bool := decide (s.size = 1) && (decide (32 ≤ (bAt s 0).toNat) && decide ((bAt s 0).toNat ≤ 126))
theorem byC_size {s : ByteArray} (h : byC s = true) : s.size = 1 := by simp only [byC, Bool.and_eq_true, decide_eq_true_eq] at h; exact h.1
theorem byte12 (s : ByteArray) {v : Bool} (hv : byC s = v) (w : World) (hs : s.size ≤ maxLen) :
    Calls Try.prog 55 #[.string s] w fun e w' => e = .returned (.bool v) ∧ w = w' := by
  unfold maxLen at hs
  by_cases h1 : s.size = 1
  · have h1' : ((s.size : Int) == 1) = true := beq_iff_eq.2 (by omega)
    have hp : 0 < s.size := by omega
    have hres : Hid (v = (decide (32 ≤ (s[0]'hp).toNat) && decide ((s[0]'hp).toNat ≤ 126))) := Lib.hid (by rw [← hv, byC, decide_eq_true h1, bAt_eq hp]; rfl)
    by_cases h32 : 32 ≤ (s[0]'hp).toNat
    · have g1 : decide ((32 : Int) ≤ ((s[0]'hp).toNat : Int)) = true := decide_eq_true (by omega)
      have hres2 : Hid (v = decide (((s[0]'hp).toNat : Int) < 127)) := Lib.hid (by
        rw [hres.out, decide_eq_true h32, Bool.true_and]
        apply decide_eq_decide.2
        omega)
      clear h1 hv
      go_enter Try.func55, Try.ntmps55
      go_wp2
      go_ret
      exact ⟨ret_bo hres2.out.symm, rfl⟩
    · have g1 : decide ((32 : Int) ≤ ((s[0]'hp).toNat : Int)) = false := decide_eq_false (by omega)
      have hres2 : Hid (v = false) := Lib.hid (by rw [hres.out, decide_eq_false h32, Bool.false_and])
      clear h1 hv
      go_enter Try.func55, Try.ntmps55
      go_wp2
      go_ret
      exact ⟨ret_bo hres2.out.symm, rfl⟩
  · have hres : Hid (v = false) := Lib.hid (by rw [← hv, byC, decide_eq_false h1, Bool.false_and])
    have h1' : ((s.size : Int) == 1) = false := beq_eq_false_iff_ne.2 (by omega)
    clear h1 hv
    go_enter Try.func55, Try.ntmps55
    go_wp2
    go_ret
    exact ⟨ret_bo hres.out.symm, rfl⟩

def codeC (ps : List OverD) (t s : ByteArray) : Int := if ovB ps = true then (if lineC t = true then (if lineC s = true then (if t.size = s.size then 0 else 8) else 2) else 2) else 1
theorem yes12 {a b : UInt8} (h : a = b) : ((a.toNat : Int) == (b.toNat : Int)) = true := by subst h; simp
theorem no12 {a b : UInt8} (h : ¬ a = b) : ((a.toNat : Int) == (b.toNat : Int)) = false := by
  have : a.toNat ≠ b.toNat := fun hh => h (UInt8.toNat_inj.1 hh)
  exact beq_eq_false_iff_ne.2 (by omega)
theorem yesn12 {a b : UInt8} (h : a = b) : (a.toNat == b.toNat) = true := by subst h; simp
theorem non12 {a b : UInt8} (h : ¬ a = b) : (a.toNat == b.toNat) = false := beq_eq_false_iff_ne.2 fun hh => h (UInt8.toNat_inj.1 hh)
def seenL : List OverD → UInt8 → UInt8 → UInt8
  | [], _, _ => 0
  | x :: r, u, t => if bAt x.under 0 = u ∧ bAt x.top 0 = t then bAt x.seen 0 else seenL r u t
def seenV (ps : List OverD) (u t : UInt8) : UInt8 := if u = t then u else if t.toNat = 32 then u else if u.toNat = 32 then t else seenL ps u t
theorem seenL_at {ps : List OverD} {k : Nat} {x : OverD} (h : ps[k]? = some x) (u t : UInt8) : seenL (ps.drop k) u t = if bAt x.under 0 = u ∧ bAt x.top 0 = t then bAt x.seen 0 else seenL (ps.drop (k + 1)) u t := by
  obtain ⟨h1, rfl⟩ := List.getElem?_eq_some_iff.1 h
  rw [List.drop_eq_getElem_cons h1, seenL]
theorem seenL_end {ps : List OverD} {k : Nat} (h : ps.length ≤ k) (u t : UInt8) : seenL (ps.drop k) u t = 0 := by
  rw [List.drop_of_length_le h, seenL]
def topL : UInt8 → List OverD → UInt8 → UInt8 → UInt8
  | b, [], _, _ => b
  | b, x :: r, u, s => topL (if bAt x.under 0 = u ∧ bAt x.seen 0 = s ∧ (b.toNat = 0 ∨ (bAt x.top 0).toNat < b.toNat) then bAt x.top 0 else b) r u s
def topV (ps : List OverD) (u s : UInt8) : UInt8 := if u.toNat = 32 then s else topL 0 ps u s
theorem topL_at {ps : List OverD} {k : Nat} {x : OverD} (h : ps[k]? = some x) (b u s : UInt8) : topL b (ps.drop k) u s = topL (if bAt x.under 0 = u ∧ bAt x.seen 0 = s ∧ (b.toNat = 0 ∨ (bAt x.top 0).toNat < b.toNat) then bAt x.top 0 else b) (ps.drop (k + 1)) u s := by
  obtain ⟨h1, rfl⟩ := List.getElem?_eq_some_iff.1 h
  rw [List.drop_eq_getElem_cons h1, topL]
theorem topL_end {ps : List OverD} {k : Nat} (h : ps.length ≤ k) (b u s : UInt8) : topL b (ps.drop k) u s = b := by
  rw [List.drop_of_length_le h, topL]
set_option maxHeartbeats 1600000 in
theorem code12 (A : Option Addr) (n c : Nat) (ps : List OverD) (t s : ByteArray) {v : Int} (hv : codeC ps t s = v) (w : World) (h : Overs w A n ps) (hn : n ≤ 1048576) (hg : ∀ x ∈ ps, x.good) (ht : t.size ≤ 1048576) (hs : s.size ≤ 1048576) :
    Calls Try.prog 59 #[.slice A n c, .string t, .string s] w fun e w' => e = .returned (.int .i64 v) ∧ Below w.heap.size w w' := by
  have htm : t.size ≤ maxLen := by unfold maxLen; omega
  have hsm : s.size ≤ maxLen := by unfold maxLen; omega
  cases h1 : ovB ps with
  | false =>
    have hr : Hid ((1 : Int) = v) := Lib.hid (by rw [← hv, codeC, h1]; rfl)
    have hc1 := Lib.hid (ok12 A n c ps h1 w h hn hg)
    clear hv h1 h hg
    go_enter Try.func59, Try.ntmps59
    go_wp2_with fail
    refine hc1.out.mono ?_
    rintro e w1 ⟨rfl, hb1⟩
    go_wp2
    go_ret
    exact ⟨ret_i64 hr.out, hb1⟩
  | true =>
    have hc1 := Lib.hid (ok12 A n c ps h1 w h hn hg)
    cases h2 : lineC t with
    | false =>
      have hr : Hid ((2 : Int) = v) := Lib.hid (by rw [← hv, codeC, h1, h2]; rfl)
      have hc2 := Lib.hid (fun W => line12 t h2 W htm)
      clear hv h1 h2 h hg
      go_enter Try.func59, Try.ntmps59
      go_wp2_with fail
      refine hc1.out.mono ?_
      rintro e w1 ⟨rfl, hb1⟩
      go_wp2_with fail
      refine (hc2.out _).mono ?_
      rintro e w2 ⟨rfl, rfl⟩
      go_wp2
      go_ret
      exact ⟨ret_i64 hr.out, hb1⟩
    | true =>
      have hc2 := Lib.hid (fun W => line12 t h2 W htm)
      cases h3 : lineC s with
      | false =>
        have hr : Hid ((2 : Int) = v) := Lib.hid (by rw [← hv, codeC, h1, h2, h3]; rfl)
        have hc3 := Lib.hid (fun W => line12 s h3 W hsm)
        clear hv h1 h2 h3 h hg
        go_enter Try.func59, Try.ntmps59
        go_wp2_with fail
        refine hc1.out.mono ?_
        rintro e w1 ⟨rfl, hb1⟩
        go_wp2_with fail
        refine (hc2.out _).mono ?_
        rintro e w2 ⟨rfl, rfl⟩
        go_wp2_with fail
        refine (hc3.out _).mono ?_
        rintro e w2 ⟨rfl, rfl⟩
        go_wp2
        go_ret
        exact ⟨ret_i64 hr.out, hb1⟩
      | true =>
        have hc3 := Lib.hid (fun W => line12 s h3 W hsm)
        by_cases h4 : t.size = s.size
        · have hr : Hid ((0 : Int) = v) := Lib.hid (by rw [← hv, codeC, h1, h2, h3, if_pos rfl, if_pos rfl, if_pos rfl, if_pos h4])
          have e1 : ((t.size : Int) == (s.size : Int)) = true := beq_iff_eq.2 (by omega)
          have e2 : ((t.size : Int) != (s.size : Int)) = false := by rw [bne, e1]; rfl
          have e3 : (t.size == s.size) = true := beq_iff_eq.2 h4
          replace h4 := Lib.hid h4
          clear hv h1 h2 h3 h hg
          go_enter Try.func59, Try.ntmps59
          go_wp2_with fail
          refine hc1.out.mono ?_
          rintro e w1 ⟨rfl, hb1⟩
          go_wp2_with fail
          refine (hc2.out _).mono ?_
          rintro e w2 ⟨rfl, rfl⟩
          go_wp2_with fail
          refine (hc3.out _).mono ?_
          rintro e w2 ⟨rfl, rfl⟩
          go_wp2
          go_ret
          exact ⟨ret_i64 hr.out, hb1⟩
        · have hr : Hid ((8 : Int) = v) := Lib.hid (by rw [← hv, codeC, h1, h2, h3, if_pos rfl, if_pos rfl, if_pos rfl, if_neg h4])
          have e1 : ((t.size : Int) == (s.size : Int)) = false := beq_eq_false_iff_ne.2 (by omega)
          have e2 : ((t.size : Int) != (s.size : Int)) = true := by rw [bne, e1]; rfl
          have e3 : (t.size == s.size) = false := beq_eq_false_iff_ne.2 h4
          replace h4 := Lib.hid h4
          clear hv h1 h2 h3 h hg
          go_enter Try.func59, Try.ntmps59
          go_wp2_with fail
          refine hc1.out.mono ?_
          rintro e w1 ⟨rfl, hb1⟩
          go_wp2_with fail
          refine (hc2.out _).mono ?_
          rintro e w2 ⟨rfl, rfl⟩
          go_wp2_with fail
          refine (hc3.out _).mono ?_
          rintro e w2 ⟨rfl, rfl⟩
          go_wp2
          go_ret
          exact ⟨ret_i64 hr.out, hb1⟩
set_option maxHeartbeats 1600000 in
theorem seen12 (A : Option Addr) (n c : Nat) (ps : List OverD) (u t : UInt8) {v : UInt8} (hv : seenV ps u t = v) (w : World) (h : Overs w A n ps) (hn : n ≤ 1048576) (hone : ∀ x ∈ ps, x.under.size = 1 ∧ x.top.size = 1 ∧ x.seen.size = 1) :
    Calls Try.prog 56 #[.slice A n c, .int .u8 (u.toNat : Int), .int .u8 (t.toNat : Int)] w fun e w' => e = .returned (.int .u8 (v.toNat : Int)) ∧ w = w' := by
  have hl := Lib.hid h.1
  by_cases h1 : u = t
  · have hr : Hid ((u.toNat : Int) = (v.toNat : Int)) := Lib.hid (by rw [← hv, seenV, if_pos h1])
    have y1 := yes12 h1
    have y2 := yesn12 h1
    clear hv h1 h hone
    go_enter Try.func56, Try.ntmps56
    go_wp2
    go_ret
    exact ⟨ret_u12 hr.out, rfl⟩
  · have y1 := no12 h1
    have y2 := non12 h1
    by_cases h2 : t.toNat = 32
    · have hr : Hid ((u.toNat : Int) = (v.toNat : Int)) := Lib.hid (by rw [← hv, seenV, if_neg h1, if_pos h2])
      have z1 : ((t.toNat : Int) == 32) = true := beq_iff_eq.2 (by omega)
      have z2 : (t.toNat == 32) = true := beq_iff_eq.2 h2
      clear hv h1 h2 h hone
      go_enter Try.func56, Try.ntmps56
      go_wp2
      go_ret
      exact ⟨ret_u12 hr.out, rfl⟩
    · have z1 : ((t.toNat : Int) == 32) = false := beq_eq_false_iff_ne.2 (by omega)
      have z2 : (t.toNat == 32) = false := beq_eq_false_iff_ne.2 h2
      by_cases h3 : u.toNat = 32
      · have hr : Hid ((t.toNat : Int) = (v.toNat : Int)) := Lib.hid (by rw [← hv, seenV, if_neg h1, if_neg h2, if_pos h3])
        have x1 : ((u.toNat : Int) == 32) = true := beq_iff_eq.2 (by omega)
        have x2 : (u.toNat == 32) = true := beq_iff_eq.2 h3
        clear hv h1 h2 h3 h hone
        go_enter Try.func56, Try.ntmps56
        go_wp2
        go_ret
        exact ⟨ret_u12 hr.out, rfl⟩
      · have x1 : ((u.toNat : Int) == 32) = false := beq_eq_false_iff_ne.2 (by omega)
        have x2 : (u.toNat == 32) = false := beq_eq_false_iff_ne.2 h3
        have hres : Hid (seenL ps u t = v) := Lib.hid (by rw [← hv, seenV, if_neg h1, if_neg h2, if_neg h3])
        have hon := Lib.hid hone
        clear hv h1 h2 h3 hone
        go_enter Try.func56, Try.ntmps56
        go_wp2
        go_loopw [7] (fun i wr => ∃ k : Nat, k ≤ n ∧ i = .int .i64 k ∧ w = wr ∧ seenL ps u t = seenL (ps.drop k) u t) (fun i _ => n - (intOf i).toNat)
        case atStart => exact ⟨0, by omega, rfl, rfl, rfl⟩
        case round =>
          obtain ⟨k, hk, rfl, rfl, he⟩ := hrel
          replace he := Lib.hid he
          by_cases hlt : k < n
          · obtain ⟨b, off, x, rfl, hb, hx, c0, c1, c2⟩ := over_at h hlt
            obtain ⟨o0, o1, o2⟩ := hon.out x (List.mem_of_getElem? hx.out)
            have hst := Lib.hid (seenL_at hx.out u t)
            have hk0 : (0 : Int) ≤ (k : Int) := Int.natCast_nonneg _
            have hk1 : (k : Int) < (n : Int) := by omega
            have hwk : IntKind.i64.wrap ((k : Int) + 1) = ((k + 1 : Nat) : Int) := by rw [IntWalk.i64_in _ (by omega)]; omega
            obtain ⟨U, T, S⟩ := x
            simp only at c0 c1 c2 o0 o1 o2 hst
            have pU : 0 < U.size := by omega
            have pT : 0 < T.size := by omega
            have pS : 0 < S.size := by omega
            have kU : (0 : Int) < (U.size : Int) := by omega
            have kT : (0 : Int) < (T.size : Int) := by omega
            have kS : (0 : Int) < (S.size : Int) := by omega
            clear o0 o1 o2
            rw [bAt_eq pU, bAt_eq pT, bAt_eq pS] at hst
            by_cases hu : U[0]'pU = u
            · have a1 := yes12 hu
              have a2 := yesn12 hu
              by_cases hT : T[0]'pT = t
              · have b1 := yes12 hT
                have b2 := yesn12 hT
                have hr : Hid (((S[0]'pS).toNat : Int) = (v.toNat : Int)) := Lib.hid (by rw [← hres.out, he.out, hst.out, if_pos ⟨hu, hT⟩])
                clear hu hT hst
                go_wp2
                go_ret
                exact ⟨ret_u12 hr.out, rfl⟩
              · have b1 := no12 hT
                have b2 := non12 hT
                have hnx : Hid (seenL ps u t = seenL (ps.drop (k + 1)) u t) := Lib.hid (by rw [he.out, hst.out, if_neg (fun hh => hT hh.2)])
                clear hu hT hst
                go_wp2
                go_roundw
                case rel => exact ⟨k + 1, by omega, by go_num, (by first | trivial | rfl), hnx.out⟩
                case measure => simp [intOf]; omega
            · have a1 := no12 hu
              have a2 := non12 hu
              have hnx : Hid (seenL ps u t = seenL (ps.drop (k + 1)) u t) := Lib.hid (by rw [he.out, hst.out, if_neg (fun hh => hu hh.1)])
              clear hu hst
              go_wp2
              go_roundw
              case rel => exact ⟨k + 1, by omega, by go_num, (by first | trivial | rfl), hnx.out⟩
              case measure => simp [intOf]; omega
          · obtain rfl : k = n := by omega
            have hr : Hid ((0 : Int) = (v.toNat : Int)) := Lib.hid (by rw [← hres.out, he.out, seenL_end (by rw [hl.out]; exact Nat.le_refl _)]; rfl)
            go_wp2
            go_ret
            exact ⟨ret_u12 hr.out, rfl⟩
set_option maxHeartbeats 1600000 in
theorem top12 (A : Option Addr) (n c : Nat) (ps : List OverD) (u s : UInt8) {v : UInt8} (hv : topV ps u s = v) (w : World) (h : Overs w A n ps) (hn : n ≤ 1048576) (hone : ∀ x ∈ ps, x.under.size = 1 ∧ x.top.size = 1 ∧ x.seen.size = 1) :
    Calls Try.prog 89 #[.slice A n c, .int .u8 (u.toNat : Int), .int .u8 (s.toNat : Int)] w fun e w' => e = .returned (.int .u8 (v.toNat : Int)) ∧ w = w' := by
  have hl := Lib.hid h.1
  have hon := Lib.hid hone
  have hv0 := Lib.hid hv
  clear hv hone
  go_enter Try.func89, Try.ntmps89
  go_wp2
  go_loopw [7, 8] (fun m i wr => ∃ (k : Nat) (best : UInt8), k ≤ n ∧ i = .int .i64 k ∧ m = .int .u8 (best.toNat : Int) ∧ w = wr ∧ topL 0 ps u s = topL best (ps.drop k) u s) (fun _ i _ => n - (intOf i).toNat)
  case atStart => exact ⟨0, 0, by omega, rfl, rfl, rfl, rfl⟩
  case round =>
    obtain ⟨k, best, hk, rfl, rfl, rfl, he⟩ := hrel
    replace he := Lib.hid he
    by_cases hlt : k < n
    · obtain ⟨b, off, x, rfl, hb, hx, c0, c1, c2⟩ := over_at h hlt
      obtain ⟨o0, o1, o2⟩ := hon.out x (List.mem_of_getElem? hx.out)
      have hst := Lib.hid (topL_at hx.out best u s)
      have hk0 : (0 : Int) ≤ (k : Int) := Int.natCast_nonneg _
      have hk1 : (k : Int) < (n : Int) := by omega
      have hwk : IntKind.i64.wrap ((k : Int) + 1) = ((k + 1 : Nat) : Int) := by rw [IntWalk.i64_in _ (by omega)]; omega
      obtain ⟨U, T, S⟩ := x
      simp only at c0 c1 c2 o0 o1 o2 hst
      have pU : 0 < U.size := by omega
      have pT : 0 < T.size := by omega
      have pS : 0 < S.size := by omega
      have kU : (0 : Int) < (U.size : Int) := by omega
      have kT : (0 : Int) < (T.size : Int) := by omega
      have kS : (0 : Int) < (S.size : Int) := by omega
      clear o0 o1 o2
      rw [bAt_eq pU, bAt_eq pT, bAt_eq pS] at hst
      by_cases hu : U[0]'pU = u
      · have a1 := yes12 hu
        have a2 := yesn12 hu
        by_cases hS : S[0]'pS = s
        · have b1 := yes12 hS
          have b2 := yesn12 hS
          by_cases h0 : best.toNat = 0
          · have d1 : ((best.toNat : Int) == 0) = true := beq_iff_eq.2 (by omega)
            have d2 : (best.toNat == 0) = true := beq_iff_eq.2 h0
            have hnx : Hid (topL 0 ps u s = topL (T[0]'pT) (ps.drop (k + 1)) u s) := Lib.hid (by rw [he.out, hst.out, if_pos ⟨hu, hS, Or.inl h0⟩])
            clear hst hu hS h0
            go_wp2
            go_roundw
            case rel => exact ⟨k + 1, T[0]'pT, by omega, by go_num, rfl, (by first | trivial | rfl), hnx.out⟩
            case measure => simp [intOf]; omega
          · have d1 : ((best.toNat : Int) == 0) = false := beq_eq_false_iff_ne.2 (by omega)
            have d2 : (best.toNat == 0) = false := beq_eq_false_iff_ne.2 h0
            by_cases hb2 : (T[0]'pT).toNat < best.toNat
            · have f1 : decide (((T[0]'pT).toNat : Int) < (best.toNat : Int)) = true := decide_eq_true (by omega)
              have f2 : decide ((T[0]'pT).toNat < best.toNat) = true := decide_eq_true hb2
              have hnx : Hid (topL 0 ps u s = topL (T[0]'pT) (ps.drop (k + 1)) u s) := Lib.hid (by rw [he.out, hst.out, if_pos ⟨hu, hS, Or.inr hb2⟩])
              clear hst hu hS h0 hb2
              go_wp2
              go_roundw
              case rel => exact ⟨k + 1, T[0]'pT, by omega, by go_num, rfl, (by first | trivial | rfl), hnx.out⟩
              case measure => simp [intOf]; omega
            · have f1 : decide (((T[0]'pT).toNat : Int) < (best.toNat : Int)) = false := decide_eq_false (by omega)
              have f2 : decide ((T[0]'pT).toNat < best.toNat) = false := decide_eq_false hb2
              have hnx : Hid (topL 0 ps u s = topL (best) (ps.drop (k + 1)) u s) := Lib.hid (by rw [he.out, hst.out, if_neg (fun hh => hh.2.2.elim h0 hb2)])
              clear hst hu hS h0 hb2
              go_wp2
              go_roundw
              case rel => exact ⟨k + 1, best, by omega, by go_num, rfl, (by first | trivial | rfl), hnx.out⟩
              case measure => simp [intOf]; omega
        · have b1 := no12 hS
          have b2 := non12 hS
          have hnx : Hid (topL 0 ps u s = topL (best) (ps.drop (k + 1)) u s) := Lib.hid (by rw [he.out, hst.out, if_neg (fun hh => hS hh.2.1)])
          clear hst hu hS
          go_wp2
          go_roundw
          case rel => exact ⟨k + 1, best, by omega, by go_num, rfl, (by first | trivial | rfl), hnx.out⟩
          case measure => simp [intOf]; omega
      · have a1 := no12 hu
        have a2 := non12 hu
        have hnx : Hid (topL 0 ps u s = topL (best) (ps.drop (k + 1)) u s) := Lib.hid (by rw [he.out, hst.out, if_neg (fun hh => hu hh.1)])
        clear hst hu
        go_wp2
        go_roundw
        case rel => exact ⟨k + 1, best, by omega, by go_num, rfl, (by first | trivial | rfl), hnx.out⟩
        case measure => simp [intOf]; omega
    · obtain rfl : k = n := by omega
      have hT : Hid (topL 0 ps u s = best) := Lib.hid (by rw [he.out, topL_end (by rw [hl.out]; exact Nat.le_refl _)])
      by_cases h3 : u.toNat = 32
      · have x1 : ((u.toNat : Int) == 32) = true := beq_iff_eq.2 (by omega)
        have x2 : (u.toNat == 32) = true := beq_iff_eq.2 h3
        have hr : Hid ((s.toNat : Int) = (v.toNat : Int)) := Lib.hid (by rw [← hv0.out, topV, if_pos h3])
        clear h3
        go_wp2
        go_ret
        exact ⟨ret_u12 hr.out, rfl⟩
      · have x1 : ((u.toNat : Int) == 32) = false := beq_eq_false_iff_ne.2 (by omega)
        have x2 : (u.toNat == 32) = false := beq_eq_false_iff_ne.2 h3
        have hr : Hid ((best.toNat : Int) = (v.toNat : Int)) := Lib.hid (by rw [← hv0.out, topV, if_neg h3, hT.out])
        clear h3
        go_wp2
        go_ret
        exact ⟨ret_u12 hr.out, rfl⟩
def soR (ps : List OverD) (u t : ByteArray) : ByteArray × Int :=
  if ovB ps = true then (if byC u = true then (if byC t = true then (if (seenV ps (bAt u 0) (bAt t 0)).toNat = 0 then (ByteArray.empty, 3) else (repB (seenV ps (bAt u 0) (bAt t 0)) 1, 0)) else (ByteArray.empty, 2)) else (ByteArray.empty, 2)) else (ByteArray.empty, 1)
theorem one_byt (W : World) (c : UInt8) : OByt (W.alloc (.cells #[.int .u8 (c.toNat : Int)] 5)) W.heap.size (.slice (some ⟨W.heap.size, 0, none⟩) 1 1) [c] :=
  ⟨rfl, .inr ⟨W.heap.size, 1, #[.int .u8 (c.toNat : Int)], rfl, Nat.le_refl _, heap_alloc_new _ _, Nat.le_refl _, by unfold maxLen; omega, rfl, rfl⟩⟩
set_option maxHeartbeats 1600000 in
theorem so12_spec (A : Option Addr) (n c : Nat) (ps : List OverD) (u t : ByteArray) (w : World) (h : Overs w A n ps) (hn : n ≤ 1048576) (hg : ∀ x ∈ ps, x.good) (hu : u.size ≤ 1048576) (ht : t.size ≤ 1048576) :
    Calls Try.prog 20 #[.slice A n c, .string u, .string t] w fun e w' => e = .returned (.tuple #[.string (soR ps u t).1, .int .i64 (soR ps u t).2]) ∧ Below w.heap.size w w' := by
  generalize hr : soR ps u t = r
  replace hr := Lib.hid hr.symm
  have hum : u.size ≤ maxLen := by unfold maxLen; omega
  have htm : t.size ≤ maxLen := by unfold maxLen; omega
  cases h1 : ovB ps with
  | false =>
    have hres : Hid (r = (ByteArray.empty, 1)) := Lib.hid (by rw [hr.out, soR, h1]; rfl)
    have hc1 := Lib.hid (ok12 A n c ps h1 w h hn hg)
    clear hr h1 h hg
    go_enter Try.func20, Try.ntmps20
    go_wp2_with fail
    refine hc1.out.mono ?_
    rintro e w1 ⟨rfl, hb1⟩
    go_wp2
    go_ret2
    exact ⟨ret_s10 hres.out, hb1⟩
  | true =>
    have hc1 := Lib.hid (ok12 A n c ps h1 w h hn hg)
    cases h2 : byC u with
    | false =>
      have hres : Hid (r = (ByteArray.empty, 2)) := Lib.hid (by rw [hr.out, soR, h1, h2]; rfl)
      have hc2 := Lib.hid (fun W => byte12 u h2 W hum)
      clear hr h1 h2 h hg
      go_enter Try.func20, Try.ntmps20
      go_wp2_with fail
      refine hc1.out.mono ?_
      rintro e w1 ⟨rfl, hb1⟩
      go_wp2_with fail
      refine (hc2.out _).mono ?_
      rintro e w2 ⟨rfl, rfl⟩
      go_wp2
      go_ret2
      exact ⟨ret_s10 hres.out, hb1⟩
    | true =>
      have hc2 := Lib.hid (fun W => byte12 u h2 W hum)
      cases h3 : byC t with
      | false =>
        have hres : Hid (r = (ByteArray.empty, 2)) := Lib.hid (by rw [hr.out, soR, h1, h2, h3]; rfl)
        have hc3 := Lib.hid (fun W => byte12 t h3 W htm)
        clear hr h1 h2 h3 h hg
        go_enter Try.func20, Try.ntmps20
        go_wp2_with fail
        refine hc1.out.mono ?_
        rintro e w1 ⟨rfl, hb1⟩
        go_wp2_with fail
        refine (hc2.out _).mono ?_
        rintro e w2 ⟨rfl, rfl⟩
        go_wp2_with fail
        refine (hc3.out _).mono ?_
        rintro e w2 ⟨rfl, rfl⟩
        go_wp2
        go_ret2
        exact ⟨ret_s10 hres.out, hb1⟩
      | true =>
        have hc3 := Lib.hid (fun W => byte12 t h3 W htm)
        have zu := byC_size h2
        have zt := byC_size h3
        have pU : 0 < u.size := by omega
        have pT : 0 < t.size := by omega
        have kU : (0 : Int) < (u.size : Int) := by omega
        have kT : (0 : Int) < (t.size : Int) := by omega
        obtain ⟨q, hq⟩ : ∃ q, seenV ps (bAt u 0) (bAt t 0) = q := ⟨_, rfl⟩
        have hcS := Lib.hid (fun W (hW : Overs W A n ps) => seen12 A n c ps (u[0]'pU) (t[0]'pT) (v := q) (by rw [← bAt_eq pU, ← bAt_eq pT]; exact hq) W hW hn (fun x hx => ovB_one h1 hx))
        clear zu zt
        by_cases hz : q.toNat = 0
        · have hres : Hid (r = (ByteArray.empty, 3)) := Lib.hid (by rw [hr.out, soR, h1, h2, h3, hq, if_pos rfl, if_pos rfl, if_pos rfl, if_pos hz])
          have y1 : ((q.toNat : Int) == 0) = true := beq_iff_eq.2 (by omega)
          have y2 : (q.toNat == 0) = true := beq_iff_eq.2 hz
          clear hr h1 h2 h3 hg hq hz
          go_enter Try.func20, Try.ntmps20
          go_wp2_with fail
          refine hc1.out.mono ?_
          rintro e w1 ⟨rfl, hb1⟩
          go_wp2_with fail
          refine (hc2.out _).mono ?_
          rintro e w2 ⟨rfl, rfl⟩
          go_wp2_with fail
          refine (hc3.out _).mono ?_
          rintro e w2 ⟨rfl, rfl⟩
          go_wp2_with fail
          have hS := h.below hb1
          go_quiet ((go_at_call 56; refine quiet_l (hcS.out _ ?_); first | exact hS | exact hS.drewN _))
          go_wp2
          go_ret2
          exact ⟨ret_s10 hres.out, below_drewN hb1 _⟩
        · have hres : Hid (r = (repB q 1, 0)) := Lib.hid (by rw [hr.out, soR, h1, h2, h3, hq, if_pos rfl, if_pos rfl, if_pos rfl, if_neg hz])
          have y1 : ((q.toNat : Int) == 0) = false := beq_eq_false_iff_ne.2 (by omega)
          have y2 : (q.toNat == 0) = false := beq_eq_false_iff_ne.2 hz
          clear hr h1 h2 h3 hg hq hz
          go_enter Try.func20, Try.ntmps20
          go_wp2_with fail
          refine hc1.out.mono ?_
          rintro e w1 ⟨rfl, hb1⟩
          go_wp2_with fail
          refine (hc2.out _).mono ?_
          rintro e w2 ⟨rfl, rfl⟩
          go_wp2_with fail
          refine (hc3.out _).mono ?_
          rintro e w2 ⟨rfl, rfl⟩
          go_wp2_with fail
          have hS := h.below hb1
          go_quiet ((go_at_call 56; refine quiet_l (hcS.out _ ?_); first | exact hS | exact hS.drewN _))
          obtain ⟨w3, hw3⟩ : ∃ w3, w1.drewN nq = w3 := ⟨_, rfl⟩
          have B3 : Below w.heap.size w w3 := hw3 ▸ below_drewN hb1 _
          rw [hw3]
          clear hw3
          have hconv := byt_conv (one_byt w3 q)
          go_wp2
          go_ret2
          exact ⟨ret_s10 hres.out, B3.step (below_a1 _ _)⟩
end Go.Proofs.Ytomnnhmhmehdjaa
