/- The model's functions on keys: letters, where a letter is, whether keys and accents are valid. -/
import Derived.Test.YtndodlfmjdgpcaaKb0
import Derived.Test.YtndodlfmjdgpcaaKeyS
import Derived.Test.YtndodlfmjdgpcaaAccentS
import Derived.Deep.QuietTactic
import Derived.BigQuiet
namespace Go.Proofs.Ytndodlfmjdgpcaa
open Go.RowKit
set_option linter.unusedVariables false
set_option linter.unusedSimpArgs false

theorem isLet_one {s : ByteArray} (h : s.size = 1) : isLet s = (decide (33 ≤ (s[0]'(by omega)).toNat) && decide ((s[0]'(by omega)).toNat ≤ 126)) := by
  obtain ⟨⟨l⟩⟩ := s
  match l, h with
  | [c], _ => rfl
theorem isLet_not {s : ByteArray} (h : ¬ s.size = 1) : isLet s = false := by
  obtain ⟨⟨l⟩⟩ := s
  match l, h with
  | [], _ => rfl
  | [c], h => exact absurd rfl h
  | _ :: _ :: _, _ => rfl

theorem letter_spec (s : ByteArray) (b : Bool) (hb : isLet s = b) (w : World) (hs : s.size ≤ maxLen) :
    Calls Try.prog 75 #[.string s] w fun e w' => e = .returned (.bool b) ∧ w = w' := by
  subst hb
  unfold maxLen at hs
  by_cases h1 : s.size = 1
  · have hr := Lib.hid (isLet_one h1)
    have h1' : ((s.size : Int) == 1) = true := beq_iff_eq.2 (by omega)
    have hp : 0 < s.size := by omega
    by_cases h33 : 33 ≤ (s[0]'hp).toNat
    · have g1 : decide ((32 : Int) < ((s[0]'hp).toNat : Int)) = true := decide_eq_true (by omega)
      have hres : Hid (isLet s = decide (((s[0]'hp).toNat : Int) < 127)) := Lib.hid (by
        rw [hr.out, decide_eq_true h33, Bool.true_and]
        apply decide_eq_decide.2
        omega)
      clear h1 hr
      go_enter Try.func75, Try.ntmps75
      go_wp2
      go_ret
      exact ⟨ret_bo hres.out.symm, rfl⟩
    · have g1 : decide ((32 : Int) < ((s[0]'hp).toNat : Int)) = false := decide_eq_false (by omega)
      have hres : Hid (isLet s = false) := Lib.hid (by rw [hr.out, decide_eq_false h33, Bool.false_and])
      clear h1 hr
      go_enter Try.func75, Try.ntmps75
      go_wp2
      go_ret
      exact ⟨ret_bo hres.out.symm, rfl⟩
  · have hres := Lib.hid (isLet_not h1)
    have h1' : ((s.size : Int) == 1) = false := beq_eq_false_iff_ne.2 (by omega)
    clear h1
    go_enter Try.func75, Try.ntmps75
    go_wp2
    go_ret
    exact ⟨ret_bo hres.out.symm, rfl⟩

/-- What l02Find hands back. -/
def foundI : Option SpotD → Int
  | some p => p.idx
  | none => -1
def foundS : Option SpotD → Bool
  | some p => p.shift
  | none => false
theorem ret_found {o : Option SpotD} {a : Int} {b : Bool} (ha : a = foundI o) (hb : b = foundS o) : Ending.returned (.tuple #[.int .i64 a, .bool b]) = .returned (.tuple #[.int .i64 (foundI o), .bool (foundS o)]) := by rw [ha, hb]

set_option maxHeartbeats 800000 in
theorem find_spec (A : Option Addr) (n c : Nat) (ks : List KeyD) (s : ByteArray) (w : World) (h : Keys w A n ks) (hn : n ≤ maxLen) :
    Calls Try.prog 76 #[.slice A n c, .string s] w fun e w' => e = .returned (.tuple #[.int .i64 (foundI (look s (spots 0 ks))), .bool (foundS (look s (spots 0 ks)))]) ∧ w = w' := by
  unfold maxLen at hn
  go_enter Try.func76, Try.ntmps76
  go_wp2
  go_loop [6] (fun i => ∃ k : Nat, k ≤ n ∧ i = .int .i64 k ∧ look s (spots 0 ks) = look s (spots k (ks.drop k))) (fun i => n - (intOf i).toNat)
  case atStart => exact ⟨0, by omega, rfl, rfl⟩
  case round =>
    obtain ⟨k, hk, rfl, he⟩ := hrel
    replace he := Lib.hid he
    by_cases hlt : k < n
    · obtain ⟨b, off, x, rfl, hb, hx, c0, c1, c2⟩ := key_at h hlt
      have hst := Lib.hid (look_drop (s := s) hx.out)
      by_cases h1 : x.low = s
      · have e1 := str_eq_true h1
        have hres : Hid (look s (spots 0 ks) = some ⟨k, false, x.dead⟩) := Lib.hid (by rw [he.out, hst.out, if_pos h1.symm])
        clear h1 hst
        go_wp2
        go_ret2
        exact ⟨ret_found (by rw [hres.out]; rfl) (by rw [hres.out]; rfl), rfl⟩
      · have e1 := str_eq_false h1
        by_cases h2 : x.high = s
        · have e2 := str_eq_true h2
          have hres : Hid (look s (spots 0 ks) = some ⟨k, true, x.dead⟩) := Lib.hid (by rw [he.out, hst.out, if_neg (fun e => h1 e.symm), if_pos h2.symm])
          clear h1 h2 hst
          go_wp2
          go_ret2
          exact ⟨ret_found (by rw [hres.out]; rfl) (by rw [hres.out]; rfl), rfl⟩
        · have e2 := str_eq_false h2
          have hnext : Hid (look s (spots 0 ks) = look s (spots (k + 1) (ks.drop (k + 1)))) := Lib.hid (by rw [he.out, hst.out, if_neg (fun e => h1 e.symm), if_neg (fun e => h2 e.symm)])
          clear h1 h2 hst
          go_wp2
          go_round
          case rel => exact ⟨k + 1, by omega, by go_num, hnext.out⟩
          case measure => simp [intOf]; omega
    · have hres : Hid (look s (spots 0 ks) = none) := Lib.hid (by rw [he.out, look_end (by rw [h.1]; omega)])
      go_wp2
      go_ret2
      exact ⟨ret_found (by rw [hres.out]; rfl) (by rw [hres.out]; rfl), rfl⟩
/-- .. where it is known. -/
theorem find_is (A : Option Addr) (n c : Nat) (ks : List KeyD) (s : ByteArray) (w : World) (h : Keys w A n ks) (hn : n ≤ maxLen) (o : Option SpotD) (ho : look s (spots 0 ks) = o) :
    Calls Try.prog 76 #[.slice A n c, .string s] w fun e w' => e = .returned (.tuple #[.int .i64 (foundI o), .bool (foundS o)]) ∧ w = w' := ho ▸ find_spec A n c ks s w h hn
/-- The three looks of an accent, each told by what it hands back. -/
theorem find_no (A : Option Addr) (n c : Nat) (ks : List KeyD) (s : ByteArray) (w : World) (h : Keys w A n ks) (hn : n ≤ maxLen) (ho : look s (spots 0 ks) = none) :
    Calls Try.prog 76 #[.slice A n c, .string s] w fun e w' => e = .returned (.tuple #[.int .i64 (-1), .bool false]) ∧ w = w' := find_is A n c ks s w h hn none ho
theorem find_yes (A : Option Addr) (n c : Nat) (ks : List KeyD) (s : ByteArray) (w : World) (h : Keys w A n ks) (hn : n ≤ maxLen) (p : SpotD) (ho : look s (spots 0 ks) = some p) :
    Calls Try.prog 76 #[.slice A n c, .string s] w fun e w' => e = .returned (.tuple #[.int .i64 (p.idx : Int), .bool p.shift]) ∧ w = w' := find_is A n c ks s w h hn (some p) ho
theorem find_some (A : Option Addr) (n c : Nat) (ks : List KeyD) (s : ByteArray) (w : World) (h : Keys w A n ks) (hn : n ≤ maxLen) :
    ∃ (i : Int) (b : Bool), (i = foundI (look s (spots 0 ks))) ∧ Calls Try.prog 76 #[.slice A n c, .string s] w fun e w' => e = .returned (.tuple #[.int .i64 i, .bool b]) ∧ w = w' :=
  ⟨_, _, rfl, find_spec A n c ks s w h hn⟩

/-- The Dead of a key that is found. -/
theorem dead_at {w : World} {A : Option Addr} {n : Nat} {ks : List KeyD} {s : ByteArray} {p : SpotD} (h : Keys w A n ks) (ho : look s (spots 0 ks) = some p) :
    ∃ b off, A = some ⟨b, off, none⟩ ∧ p.idx < n ∧ w.cell? ⟨b, off + p.idx * 3 + 2, none⟩ = some (.bool p.dead) := by
  obtain ⟨x, _, h2, h3, _⟩ := look_some ks 0 ho
  rw [Nat.sub_zero] at h2
  have hlt : p.idx < n := by
    rw [← h.1]
    exact (List.getElem?_eq_some_iff.1 h2).1
  obtain ⟨b, off, y, hA, _, hy, _, _, c2⟩ := key_at h hlt
  have h4 := hy.out
  rw [h2] at h4
  cases h4
  exact ⟨b, off, hA, hlt, by rw [h3]; exact c2⟩

set_option maxHeartbeats 1600000 in
theorem accent_spec (A : Option Addr) (n c : Nat) (ks : List KeyD) (pb po : Nat) (x : AccentD) (v : Bool) (hv : okAcc (spots 0 ks) x = v) (w : World) (h : Keys w A n ks) (hn : n ≤ maxLen) (hg : x.good)
    (c0 : w.cell? ⟨pb, po, none⟩ = some (.string x.mark)) (c1 : w.cell? ⟨pb, po + 1, none⟩ = some (.string x.letter)) (c2 : w.cell? ⟨pb, po + 2, none⟩ = some (.string x.made)) :
    Calls Try.prog 108 #[.slice A n c, .pointer (some ⟨pb, po, none⟩)] w fun e w' => e = .returned (.bool v) ∧ w = w' := by
  unfold maxLen at hn
  have hgm : x.made.size ≤ maxLen := hg.2.2
  obtain ⟨id_, bd, hid, hcd⟩ := find_some A n c ks x.made w h (by unfold maxLen; omega)
  replace hcd := Lib.hid hcd
  cases hom : look x.mark (spots 0 ks) with
  | none =>
    have hcm := Lib.hid (find_no A n c ks x.mark w h (by unfold maxLen; omega) hom)
    obtain ⟨il, bl, _, hcl⟩ := find_some A n c ks x.letter w h (by unfold maxLen; omega)
    replace hcl := Lib.hid hcl
    have hres : Hid (v = false) := Lib.hid (by rw [← hv]; simp [okAcc, hom])
    clear hv hom hid
    go_enter Try.func108, Try.ntmps108
    go_wp2_with fail
    refine hcm.out.mono ?_
    rintro e w' ⟨rfl, rfl⟩
    go_wp2_with fail
    refine hcl.out.mono ?_
    rintro e w' ⟨rfl, rfl⟩
    go_wp2_with fail
    refine hcd.out.mono ?_
    rintro e w' ⟨rfl, rfl⟩
    go_wp2
    go_ret
    exact ⟨ret_bo hres.out.symm, rfl⟩
  | some p =>
    have hcm := Lib.hid (find_yes A n c ks x.mark w h (by unfold maxLen; omega) p hom)
    obtain ⟨b, off, rfl, hlt, cd⟩ := dead_at h hom
    have hp0 : decide ((0 : Int) ≤ (p.idx : Int)) = true := decide_eq_true (by omega)
    cases hpd : p.dead with
    | false =>
      obtain ⟨il, bl, _, hcl⟩ := find_some (some ⟨b, off, none⟩) n c ks x.letter w h (by unfold maxLen; omega)
      replace hcl := Lib.hid hcl
      have hres : Hid (v = false) := Lib.hid (by rw [← hv]; simp [okAcc, hom, hpd])
      rw [hpd] at cd
      clear hv hom hid hpd
      go_enter Try.func108, Try.ntmps108
      go_wp2_with fail
      refine hcm.out.mono ?_
      rintro e w' ⟨rfl, rfl⟩
      go_wp2_with fail
      refine hcl.out.mono ?_
      rintro e w' ⟨rfl, rfl⟩
      go_wp2_with fail
      refine hcd.out.mono ?_
      rintro e w' ⟨rfl, rfl⟩
      go_wp2
      go_ret
      exact ⟨ret_bo hres.out.symm, rfl⟩
    | true =>
      rw [hpd] at cd
      cases hol : look x.letter (spots 0 ks) with
      | none =>
        have hcl := Lib.hid (find_no (some ⟨b, off, none⟩) n c ks x.letter w h (by unfold maxLen; omega) hol)
        have hres : Hid (v = false) := Lib.hid (by rw [← hv]; simp [okAcc, hol])
        clear hv hom hid hpd hol
        go_enter Try.func108, Try.ntmps108
        go_wp2_with fail
        refine hcm.out.mono ?_
        rintro e w' ⟨rfl, rfl⟩
        go_wp2_with fail
        refine hcl.out.mono ?_
        rintro e w' ⟨rfl, rfl⟩
        go_wp2_with fail
        refine hcd.out.mono ?_
        rintro e w' ⟨rfl, rfl⟩
        go_wp2
        go_ret
        exact ⟨ret_bo hres.out.symm, rfl⟩
      | some q =>
        have hcl := Lib.hid (find_yes (some ⟨b, off, none⟩) n c ks x.letter w h (by unfold maxLen; omega) q hol)
        obtain ⟨b', off', hA', hlt', cq⟩ := dead_at h hol
        cases hA'
        have hq0 : decide ((0 : Int) ≤ (q.idx : Int)) = true := decide_eq_true (by omega)
        cases hqd : q.dead with
        | true =>
          have hres : Hid (v = false) := Lib.hid (by rw [← hv]; simp [okAcc, hol, hqd])
          rw [hqd] at cq
          clear hv hom hid hpd hol hqd
          go_enter Try.func108, Try.ntmps108
          go_wp2_with fail
          refine hcm.out.mono ?_
          rintro e w' ⟨rfl, rfl⟩
          go_wp2_with fail
          refine hcl.out.mono ?_
          rintro e w' ⟨rfl, rfl⟩
          go_wp2_with fail
          refine hcd.out.mono ?_
          rintro e w' ⟨rfl, rfl⟩
          go_wp2
          go_ret
          exact ⟨ret_bo hres.out.symm, rfl⟩
        | false =>
          rw [hqd] at cq
          cases hod : look x.made (spots 0 ks) with
          | some t =>
            have hres : Hid (v = false) := Lib.hid (by rw [← hv]; simp [okAcc, hod])
            have hi0 : 0 ≤ id_ := by rw [hid, hod]; exact Int.natCast_nonneg _
            have hi1 : decide (id_ < 0) = false := decide_eq_false (by omega)
            clear hv hom hid hpd hol hqd hod
            go_enter Try.func108, Try.ntmps108
            go_wp2_with fail
            refine hcm.out.mono ?_
            rintro e w' ⟨rfl, rfl⟩
            go_wp2_with fail
            refine hcl.out.mono ?_
            rintro e w' ⟨rfl, rfl⟩
            go_wp2_with fail
            refine hcd.out.mono ?_
            rintro e w' ⟨rfl, rfl⟩
            go_wp2
            go_ret
            exact ⟨ret_bo hres.out.symm, rfl⟩
          | none =>
            have hres : Hid (isLet x.made = v) := Lib.hid (by rw [← hv]; simp [okAcc, hod, hom, hol, hpd, hqd])
            have hi0 : id_ = -1 := by rw [hid, hod]; rfl
            subst hi0
            clear hv hom hid hpd hol hqd hod
            go_enter Try.func108, Try.ntmps108
            go_wp2_with fail
            refine hcm.out.mono ?_
            rintro e w' ⟨rfl, rfl⟩
            go_wp2_with fail
            refine hcl.out.mono ?_
            rintro e w' ⟨rfl, rfl⟩
            go_wp2_with fail
            refine hcd.out.mono ?_
            rintro e w' ⟨rfl, rfl⟩
            go_wp2_with (go_at_call 75; refine (letter_spec x.made v hres.out _ hgm).mono ?_; rintro e w' ⟨rfl, rfl⟩)
            go_ret
            exact ⟨rfl, rfl⟩
end Go.Proofs.Ytndodlfmjdgpcaa
