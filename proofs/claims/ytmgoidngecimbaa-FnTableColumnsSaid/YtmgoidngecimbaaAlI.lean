/- Numbers aligned at one column: the program's functions. -/
import Derived.Test.YtmgoidngecimbaaAl0
import Derived.Test.YtmgoidngecimbaaNumI
import Derived.Test.YtmgoidngecimbaaRak8
import Derived.Test.YtmgoidngecimbaaLayD
namespace Go.Proofs.Ytmgoidngecimbaa
open Go.RowKit Go.ChangeShapes Go.WideShapes Go.Deep
set_option linter.unusedVariables false
set_option linter.unusedSimpArgs false

theorem blanks8_impl (n : Nat) (hn : n ≤ 1000) (w : World) : Calls Try.prog 33 #[.int .i64 (n : Int)] w fun e w' => e = .returned (.string (blanksB n)) ∧ Below w.heap.size w w' := by
  have hrep := Lib.hid (fun W => Try.strings_Repeat ⟨#[32]⟩ n W (by omega) (by simp only [show (⟨#[32]⟩ : ByteArray).size = 1 from rfl]; omega))
  rw [show (⟨#[32]⟩ : ByteArray).data.toList = [32] from rfl, repeat_one8] at hrep
  go_enter Try.func33, Try.ntmps33
  go_wp2_with fail
  refine (hrep.out _).mono ?_
  rintro e w1 ⟨rfl, hb1⟩
  go_wp2
  go_ret
  exact ⟨rfl, hb1⟩
theorem Try.infoNum : (Try.prog.info? 70).map (fun i => (i.zero, i.size, i.bytes)) = some (some (.string ⟨#[]⟩), 1, 16) := by kernel_rfl
theorem owns_n8 {w : World} {base n : Nat} {L : Value} {l : List ByteArray} (hn : l.length = n) (h : w.ownsRow base 70 1 L n (l.flatMap strC)) : ∃ A c, L = .slice A n c ∧ Strs w A n l ∧ (∀ p, A = some p → base ≤ p.block) := by
  subst hn
  obtain ⟨A, c, e, hO⟩ := ORow.of_owns (cells := strC) (fun (x : ByteArray) => (rfl : (strC x).length = 1)) h
  exact ⟨A, c, e, hO.srow, hO.own⟩
theorem front8B (s : ByteArray) (hs : s.size ≤ 1048576) {v : Int} (hv : pnI s = v) (w : World) :
    Calls Try.prog 55 #[.string s] w fun e w' => e = .returned (.int .i64 v) ∧ Below w.heap.size w w' := by
  subst hv
  exact front8 s hs rfl w

theorem isLong8B (s : ByteArray) {v : Bool} (hv : shortB s = v) (w : World) : Calls Try.prog 52 #[.string s] w fun e w' => e = .returned (.bool (!v)) ∧ Below w.heap.size w w' := by
  refine (isLong8 s (v := !v) (by rw [← hv, shortB, ← decide_not]; exact decide_eq_decide.2 (by omega)) w).mono ?_
  rintro e w' ⟨rfl, rfl⟩
  exact ⟨rfl, Below.refl _ _⟩

theorem idx_long8 (A : Option Addr) (n c : Nat) (ps : List ByteArray) {v : Bool} (hv : ps.all shortB = v) (w : World) (h : Strs w A n ps) (hn : n ≤ 1048576) :
    Calls Try.prog 72 #[.slice A n c, .func (.func 52) #[] #[]] w fun e w' => (∃ i : Int, e = .returned (.int .i64 i) ∧ decide (0 ≤ i) = !v) ∧ Below w.heap.size w w' := by
  have hv0 := Lib.hid hv
  have hl := Lib.hid h.1
  clear hv
  go_enter Try.func72, Try.ntmps72
  go_wp2
  go_loopw [8] (fun i wr => ∃ k : Nat, k ≤ n ∧ i = .int .i64 k ∧ Below w.heap.size w wr ∧ ps.all shortB = (ps.drop k).all shortB) (fun i _ => n - (intOf i).toNat)
  case atStart => exact ⟨0, by omega, rfl, Below.refl _ _, rfl⟩
  case round =>
    obtain ⟨k, hk, rfl, hbw, he⟩ := hrel
    replace he := Lib.hid he
    by_cases hlt : k < n
    · obtain ⟨b, off, x, rfl, hb, hx, c0⟩ := str_at (h.below hbw) hlt
      have hst := Lib.hid (all8_drop (p := shortB) hx.out)
      have hk0 : (0 : Int) ≤ (k : Int) := Int.natCast_nonneg _
      have hk1 : (k : Int) < (n : Int) := by omega
      cases h1 : shortB x with
      | false =>
        have hr : Hid (v = false) := Lib.hid (by rw [← hv0.out, he.out, hst.out]; simp only [h1]; rfl)
        have hj := Lib.hid (fun W => isLong8B x h1 W)
        clear h1
        go_wp2_with fail
        refine (hj.out _).mono ?_
        rintro e w1 ⟨rfl, hb1⟩
        go_wp2
        go_ret
        exact ⟨⟨_, rfl, by rw [hr.out]; simp⟩, hbw.step hb1⟩
      | true =>
        have hnx : Hid (ps.all shortB = (ps.drop (k + 1)).all shortB) := Lib.hid (by rw [he.out, hst.out]; simp only [h1]; rfl)
        have hj := Lib.hid (fun W => isLong8B x h1 W)
        clear h1
        go_wp2_with fail
        refine (hj.out _).mono ?_
        rintro e w1 ⟨rfl, hb1⟩
        go_wp2
        go_roundw
        case rel => exact ⟨k + 1, by omega, by go_num, hbw.step hb1, hnx.out⟩
        case measure => simp [intOf]; omega
    · obtain rfl : k = n := by omega
      have hr : Hid (v = true) := Lib.hid (by rw [← hv0.out, he.out, all8_end (by rw [hl.out]; omega)])
      go_wp2
      go_ret
      exact ⟨⟨_, rfl, by rw [hr.out]; rfl⟩, hbw⟩
theorem has_long8 (A : Option Addr) (n c : Nat) (ps : List ByteArray) {v : Bool} (hv : ps.all shortB = v) (w : World) (h : Strs w A n ps) (hn : n ≤ 1048576) :
    Calls Try.prog 51 #[.slice A n c, .func (.func 52) #[] #[]] w fun e w' => e = .returned (.bool (!v)) ∧ Below w.heap.size w w' := by
  have hi := Lib.hid (idx_long8 A n c ps hv w h hn)
  clear hv h
  go_enter Try.func51, Try.ntmps51
  go_wp2_with fail
  refine (hi.out).mono ?_
  rintro e w1 ⟨⟨i, rfl, hd⟩, hb1⟩
  replace hd := Lib.hid hd
  go_wp2
  go_ret
  exact ⟨ret_bo hd.out, hb1⟩

theorem idx_wrong8 (A : Option Addr) (n c : Nat) (ps : List ByteArray) {v : Bool} (hv : ps.all numB8 = v) (w : World) (h : Strs w A n ps) (hn : n ≤ 1048576) (hs : ∀ s ∈ ps, s.size ≤ 30) :
    Calls Try.prog 72 #[.slice A n c, .func (.func 53) #[] #[]] w fun e w' => (∃ i : Int, e = .returned (.int .i64 i) ∧ decide (0 ≤ i) = !v) ∧ Below w.heap.size w w' := by
  have hv0 := Lib.hid hv
  have hl := Lib.hid h.1
  have hs0 := Lib.hid hs
  clear hs
  clear hv
  go_enter Try.func72, Try.ntmps72
  go_wp2
  go_loopw [8] (fun i wr => ∃ k : Nat, k ≤ n ∧ i = .int .i64 k ∧ Below w.heap.size w wr ∧ ps.all numB8 = (ps.drop k).all numB8) (fun i _ => n - (intOf i).toNat)
  case atStart => exact ⟨0, by omega, rfl, Below.refl _ _, rfl⟩
  case round =>
    obtain ⟨k, hk, rfl, hbw, he⟩ := hrel
    replace he := Lib.hid he
    by_cases hlt : k < n
    · obtain ⟨b, off, x, rfl, hb, hx, c0⟩ := str_at (h.below hbw) hlt
      have hst := Lib.hid (all8_drop (p := numB8) hx.out)
      have hk0 : (0 : Int) ≤ (k : Int) := Int.natCast_nonneg _
      have hk1 : (k : Int) < (n : Int) := by omega
      cases h1 : numB8 x with
      | false =>
        have hr : Hid (v = false) := Lib.hid (by rw [← hv0.out, he.out, hst.out]; simp only [h1]; rfl)
        have hj := Lib.hid (fun W => isWrong8 x (hs0.out x (List.mem_of_getElem? hx.out)) h1 W)
        clear h1
        go_wp2_with fail
        refine (hj.out _).mono ?_
        rintro e w1 ⟨rfl, hb1⟩
        go_wp2
        go_ret
        exact ⟨⟨_, rfl, by rw [hr.out]; simp⟩, hbw.step hb1⟩
      | true =>
        have hnx : Hid (ps.all numB8 = (ps.drop (k + 1)).all numB8) := Lib.hid (by rw [he.out, hst.out]; simp only [h1]; rfl)
        have hj := Lib.hid (fun W => isWrong8 x (hs0.out x (List.mem_of_getElem? hx.out)) h1 W)
        clear h1
        go_wp2_with fail
        refine (hj.out _).mono ?_
        rintro e w1 ⟨rfl, hb1⟩
        go_wp2
        go_roundw
        case rel => exact ⟨k + 1, by omega, by go_num, hbw.step hb1, hnx.out⟩
        case measure => simp [intOf]; omega
    · obtain rfl : k = n := by omega
      have hr : Hid (v = true) := Lib.hid (by rw [← hv0.out, he.out, all8_end (by rw [hl.out]; omega)])
      go_wp2
      go_ret
      exact ⟨⟨_, rfl, by rw [hr.out]; rfl⟩, hbw⟩
theorem has_wrong8 (A : Option Addr) (n c : Nat) (ps : List ByteArray) {v : Bool} (hv : ps.all numB8 = v) (w : World) (h : Strs w A n ps) (hn : n ≤ 1048576) (hs : ∀ s ∈ ps, s.size ≤ 30) :
    Calls Try.prog 51 #[.slice A n c, .func (.func 53) #[] #[]] w fun e w' => e = .returned (.bool (!v)) ∧ Below w.heap.size w w' := by
  have hi := Lib.hid (idx_wrong8 A n c ps hv w h hn hs)
  clear hv h
  go_enter Try.func51, Try.ntmps51
  go_wp2_with fail
  refine (hi.out).mono ?_
  rintro e w1 ⟨⟨i, rfl, hd⟩, hb1⟩
  replace hd := Lib.hid hd
  go_wp2
  go_ret
  exact ⟨ret_bo hd.out, hb1⟩

set_option maxHeartbeats 1600000 in
theorem greatN8 (A : Option Addr) (n c : Nat) (l : List ByteArray) (w : World) (h : Strs w A n l) (hn : n ≤ 40) (hs : ∀ s ∈ l, s.size ≤ 30) {z : Int} (hz : mostP l = z) :
    Calls Try.prog 54 #[.slice A n c, .func (.func 55) #[] #[]] w fun e w' => e = .returned (.int .i64 z) ∧ Below w.heap.size w w' := by
  have hz0 := Lib.hid hz
  have hl := Lib.hid h.1
  have hs0 := Lib.hid hs
  clear hz hs
  go_enter Try.func54, Try.ntmps54
  go_wp2
  go_loopw [5, 10] (fun a q wr => ∃ k : Nat, k ≤ n ∧ q = .int .i64 k ∧ a = .int .i64 (mostP (l.take k)) ∧ Below w.heap.size w wr) (fun _ q _ => n - (intOf q).toNat)
  case atStart => exact ⟨0, by omega, rfl, rfl, Below.refl _ _⟩
  case round =>
    obtain ⟨k, hk, rfl, rfl, hbw⟩ := hrel
    by_cases hlt : k < n
    · obtain ⟨bb, off, x, rfl, hb, hx, d0⟩ := str_at (h.below hbw) hlt
      have hnx := Lib.hid (mostP_snoc hx.out)
      have hxs := hs0.out x (List.mem_of_getElem? hx.out)
      obtain ⟨y, hy⟩ : ∃ y, pnI x = y := ⟨_, rfl⟩
      rw [hy] at hnx
      have hcl := Lib.hid (fun W => front8B x (by omega) hy W)
      have hk0 : (0 : Int) ≤ (k : Int) := Int.natCast_nonneg _
      have hk1 : (k : Int) < (n : Int) := by omega
      clear hy
      generalize mostP (l.take k) = a at *
      go_wp2_with fail
      refine (hcl.out _).mono ?_
      rintro e w1 ⟨rfl, hb1⟩
      by_cases hay : a < y
      · have hmx : max a y = y := by omega
        go_wp2
        go_roundw
        case rel => exact ⟨k + 1, by omega, by go_num, by rw [hnx.out]; first | rfl | rw [hmx], hbw.step hb1⟩
        case measure => simp [intOf]; omega
      · have hmx : max a y = a := by omega
        go_wp2
        go_roundw
        case rel => exact ⟨k + 1, by omega, by go_num, by rw [hnx.out]; first | rfl | rw [hmx], hbw.step hb1⟩
        case measure => simp [intOf]; omega
    · obtain rfl : k = n := by omega
      have hfin : Hid (mostP (l.take k) = z) := Lib.hid (by rw [List.take_of_length_le (by rw [hl.out]; omega)]; exact hz0.out)
      go_wp2
      go_ret
      exact ⟨ret_i64 hfin.out, hbw⟩
set_option maxRecDepth 100000 in
set_option maxHeartbeats 3200000 in
theorem al_impl (A : Option Addr) (n c : Nat) (l : List ByteArray) (w : World) (h : Strs w A n l) (hn : n ≤ 1048576) (hg : ∀ s ∈ l, strGood s) :
    Calls Try.prog 17 #[.slice A n c] w (TOut (alR l) w) := by
  generalize hr : alR l = r
  replace hr := Lib.hid hr.symm
  have hl := Lib.hid h.1
  obtain ⟨i0, hi, hz0, hz1, hz2⟩ := info_parts Try.infoNum
  clear hg
  by_cases h40 : n ≤ 40
  · have g40 : ¬ (40 : Int) < (n : Int) := by omega
    have hl40 : Hid (l.length ≤ 40) := Lib.hid (by rw [hl.out]; exact h40)
    go_enter Try.func17, Try.ntmps17
    go_wp2
    go_loopw [4, 16] (fun v i wr => ∃ k : Nat, k ≤ n ∧ i = .int .i64 k ∧ Below w.heap.size w wr ∧ wr.ownsRow w.heap.size 70 1 v k ((l.take k).flatMap strC)) (fun _ i _ => n - (intOf i).toNat)
    case atStart => exact ⟨0, by omega, rfl, Below.refl _ _, owns_nil8 w _ _⟩
    case round =>
      rename World => wr
      obtain ⟨k, hk, rfl, hbw, hrow⟩ := hrel
      have hwz := hbw.size
      by_cases hlt : k < n
      · obtain ⟨b, off, x, rfl, hb, hx, c0⟩ := str_at (h.below hbw) hlt
        have hk0 : (0 : Int) ≤ (k : Int) := Int.natCast_nonneg _
        have hk1 : (k : Int) < (n : Int) := by omega
        have hsn : Hid ((l.take (k + 1)).flatMap strC = (l.take k).flatMap strC ++ [.string x]) := Lib.hid (by rw [take8 hx.out, snoc8s])
        have hrl := Lib.hid hrow
        clear hrow
        go_wp2_with (at_builtin; refine wpList_append_own _ rfl _ _ 69 rfl w.heap.size 70 i0 _ 1 16 Try.underlying69 hi hz0 hz1 hz2 rfl (by decide) _ _ _ rfl (hrl.out.alloc _) ⟨wr.heap.size, 0, none⟩ 1 1 [.string x] rfl rfl (news8 _ _ _) (one8s _) (by unfold maxLen; omega) (by omega) (by simp; omega) ?_)
        intro vqq wqq hownqq hgrqq hnilqq
        have hgqqq := grown_trans (grown_below (below_a1 wr _) _) hgrqq
        clear hgrqq hnilqq
        have hq : Hid (wqq.ownsRow w.heap.size 70 1 vqq (k + 1) ((l.take (k + 1)).flatMap strC) ∧ Below w.heap.size w wqq) := Lib.hid ⟨by rw [hsn.out]; exact hownqq, hbw.grown hgqqq hwz (fun j hj => owns_ge8 hrl.out hj)⟩
        clear hownqq hgqqq
        clear hrl c0
        go_wp2
        go_roundw
        case rel => exact ⟨k + 1, by omega, by go_num, hq.out.2, hq.out.1⟩
        case measure => simp [intOf]; omega
      · obtain rfl : k = n := by omega
        rw [List.take_of_length_le (by rw [hl.out]; omega)] at hrow
        obtain ⟨A1, c1, rfl, hN, hown⟩ := owns_n8 hl.out hrow
        have hN0 := Lib.hid hN
        clear hrow hN hown
        cases h1 : l.all shortB with
        | false =>
          have hbad : Hid (r = ([], 2)) := Lib.hid (by rw [hr.out, alR_2 (.inl h1)])
          have hc1 := Lib.hid (has_long8 A1 k c1 l h1 wr hN0.out hn)
          clear h1
          go_wp2_with fail
          refine hc1.out.mono ?_
          rintro e w2 ⟨rfl, hb2⟩
          go_wp2
          go_ret2
          exact TOut.bad hbad.out (hbw.step hb2)
        | true =>
          have hc1 := Lib.hid (has_long8 A1 k c1 l h1 wr hN0.out hn)
          have hsz := Lib.hid (all_short h1)
          cases h2 : l.all numB8 with
          | false =>
            have hbad : Hid (r = ([], 7)) := Lib.hid (by rw [hr.out, alR_7 h1 hl40.out h2])
            have hc2 := Lib.hid (fun W (hW : Strs W A1 k l) => has_wrong8 A1 k c1 l h2 W hW hn hsz.out)
            clear h1 h2
            go_wp2_with fail
            refine hc1.out.mono ?_
            rintro e w2 ⟨rfl, hb2⟩
            go_wp2_with fail
            refine (hc2.out _ (hN0.out.below hb2)).mono ?_
            rintro e w3 ⟨rfl, hb3⟩
            go_wp2
            go_ret2
            exact TOut.bad hbad.out ((hbw.step hb2).step hb3)
          | true =>
            have hgood := Lib.hid (hr.out.trans (alR_0 h1 hl40.out h2))
            have hcode : Hid (r.2 = 0) := Lib.hid (by rw [hgood.out])
            have hc2 := Lib.hid (fun W (hW : Strs W A1 k l) => has_wrong8 A1 k c1 l h2 W hW hn hsz.out)
            obtain ⟨m0, m30, hmx⟩ := mostP_range hsz.out
            have hc3 := Lib.hid (fun W (hW : Strs W A1 k l) => greatN8 A1 k c1 l W hW h40 hsz.out rfl)
            replace hmx := Lib.hid hmx
            obtain ⟨j0, hj, hy0, hy1, hy2⟩ := info_parts Try.infoStr
            clear h1 h2 hr hi hz0 hz1 hz2
            generalize mostP l = M at *
            go_wp2_with fail
            refine hc1.out.mono ?_
            rintro e w2 ⟨rfl, hb2⟩
            go_wp2_with fail
            refine (hc2.out _ (hN0.out.below hb2)).mono ?_
            rintro e w3 ⟨rfl, hb3⟩
            go_wp2_with fail
            refine (hc3.out _ ((hN0.out.below hb2).below hb3)).mono ?_
            rintro e wp ⟨rfl, hb4⟩
            have hS := ((hN0.out.below hb2).below hb3).below hb4
            have hbp := Lib.hid (((hbw.step hb2).step hb3).step hb4)
            clear hc1 hc2 hc3 hb2 hb3 hb4 hN0
            go_wp2
            go_loopw [8, 33] (fun v i wq => ∃ q : Nat, q ≤ k ∧ i = .int .i64 q ∧ Below wp.heap.size wp wq ∧ wq.ownsRow wp.heap.size 9 1 v q (((l.take q).map (padS M)).flatMap strC)) (fun _ i _ => k - (intOf i).toNat)
            case atStart => exact ⟨0, by omega, rfl, Below.refl _ _, owns_nil8 wp _ _⟩
            case round =>
              rename World => wq
              obtain ⟨q, hq, rfl, hbo, hrow⟩ := hrel
              by_cases hlt3 : q < k
              · obtain ⟨b, off, x, rfl, hb, hx, c0⟩ := str_at (hS.below hbo) hlt3
                have hxs := hsz.out x (List.mem_of_getElem? hx.out)
                have hpr := pnI_range hxs
                have hpm := hmx.out x (List.mem_of_getElem? hx.out)
                have hnx : Hid (((l.take (q + 1)).map (padS M)).flatMap strC = ((l.take q).map (padS M)).flatMap strC ++ [.string (padS M x)]) := Lib.hid (by rw [take8 hx.out, List.map_append, List.flatMap_append]; rfl)
                have hpad : padS M x = blanksB (M - pnI x).toNat ++ x := rfl
                obtain ⟨y, hy⟩ : ∃ y, pnI x = y := ⟨_, rfl⟩
                rw [hy] at hpr hpm hpad
                have hpt := Lib.hid (fun W => front8B x (by omega) hy W)
                obtain ⟨d, hd⟩ : ∃ d : Nat, M - y = (d : Int) := ⟨(M - y).toNat, by omega⟩
                rw [hd, Int.toNat_natCast] at hpad
                have hw0 : IntKind.i64.wrap (M - y) = (d : Int) := by rw [hd]; exact IntWalk.i64_in _ (by omega)
                have hd30 : d ≤ 30 := by omega
                have hbl := Lib.hid (fun W => blanks8_impl d (by omega) W)
                have hcat : ¬ 9223372036854775807 < (blanksB d).size + x.size := by
                  have : (blanksB d).size = d := by simp [blanksB, ByteArray.size]
                  omega
                replace hpad := Lib.hid hpad
                have hq0 : (0 : Int) ≤ (q : Int) := Int.natCast_nonneg _
                have hq1 : (q : Int) < (k : Int) := by omega
                have hwz2 := hbo.size
                have hrl := Lib.hid hrow
                clear hy hrow hpr hpm hd
                generalize blanksB d = BL at *
                go_wp2_with fail
                refine (hpt.out _).mono ?_
                rintro e w5 ⟨rfl, hb5⟩
                go_wp2_with fail
                refine (hbl.out _).mono ?_
                rintro e w6 ⟨rfl, hb6⟩
                have hb56 := hb5.step hb6
                have hrk := Lib.hid (owns_keep8 hrl.out hb56)
                have hbo6 := below_step8 hbo hb56 hwz2
                have hwz6 := hbo6.size
                clear hrl hb5 hb6 hb56
                go_wp2_with (at_builtin; refine wpList_append_own _ rfl _ _ 27 rfl wp.heap.size 9 j0 _ 1 16 Try.underlying27 hj hy0 hy1 hy2 rfl (by decide) _ _ _ rfl (hrk.out.alloc _) ⟨w6.heap.size, 0, none⟩ 1 1 [.string (BL ++ x)] rfl rfl (news8 _ _ _) (one8s _) (by unfold maxLen; omega) (by omega) (by simp; omega) ?_)
                intro vqz wqz hownqz hgrqz hnilqz
                have hgqqz := grown_trans (grown_below (below_a1 w6 _) _) hgrqz
                clear hgrqz hnilqz
                have hz : Hid (wqz.ownsRow wp.heap.size 9 1 vqz (q + 1) (((l.take (q + 1)).map (padS M)).flatMap strC) ∧ Below wp.heap.size wp wqz) := Lib.hid ⟨by rw [hnx.out, hpad.out, List.map_take]; exact hownqz, hbo6.grown hgqqz hwz6 (fun j hj => owns_ge8 hrk.out hj)⟩
                clear hownqz hgqqz
                clear hrk
                go_wp2
                go_roundw
                case rel => exact ⟨q + 1, by omega, by go_num, hz.out.2, hz.out.1⟩
                case measure => simp [intOf]; omega
              · obtain rfl : q = k := by omega
                have hall2 : ((l.take q).map (padS M)) = l.map (padS M) := by rw [List.take_of_length_le (by rw [hl.out]; omega)]
                rw [hall2] at hrow
                obtain ⟨A', c', rfl, hO⟩ := owns_s8 (by rw [List.length_map, hl.out]) hrow
                have hO2 := Lib.hid hO
                clear hO hrow
                go_wp2
                go_ret2
                exact ⟨A', q, c', by rw [hcode.out]; rfl, by omega, by rw [hgood.out]; exact hO2.out.mono hbp.out.size, hbp.out.step hbo⟩
  · have g40 : (40 : Int) < (n : Int) := by omega
    have hbad : Hid (r = ([], 2)) := Lib.hid (by rw [hr.out, alR_2 (.inr (by rw [hl.out]; exact h40))])
    go_enter Try.func17, Try.ntmps17
    go_wp2
    go_ret2
    exact TOut.bad hbad.out (Below.refl _ _)
end Go.Proofs.Ytmgoidngecimbaa
