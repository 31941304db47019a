/- Lines of words: the program's functions: words that are valid, what a line leaves, how many words fit. -/
import Derived.Test.YtcaojaaooadeaaaLn3
import Derived.Test.YtcaojaaooadeaaaShelf
import Derived.Test.YtcaojaaooadeaaaTl0
namespace Go.Proofs.Ytcaojaaooadeaaa
open Go.RowKit Go.ChangeShapes Go.WideShapes Go.Deep
set_option linter.unusedVariables false
set_option linter.unusedSimpArgs false

theorem isEmpty9 (s : ByteArray) (h : ¬ s.size = 0) : s.toList.isEmpty = false := by
  rw [ByteArray.toList_eq]
  have : s.data.toList.length = s.size := rfl
  cases h1 : s.data.toList with
  | nil => rw [h1] at this; exact absurd this.symm h
  | cons a r => rfl
theorem wrong9 (x : ByteArray) (hx : x.size ≤ maxLen) (wd : Int) (p : Addr) {v : Bool} (hv : wordB wd x = v) (w : World) (hp : w.cell? p = some (.int .i64 wd)) :
    Calls Try.prog 38 #[.string x, .pointer (some p)] w fun e w' => e = .returned (.bool (!v)) ∧ w = w' := by
  have hres : Hid (v = (!decide (x.size = 0) && (decide ((x.size : Int) ≤ wd) && bytesIn 33 126 x))) := Lib.hid (by rw [← hv, word_impl])
  have hc := Lib.hid (fun W => hasBytes_any x 33 126 wd _ rfl W hx)
  clear hv
  generalize (decide ((x.size : Int) ≤ wd) && bytesIn 33 126 x) = u at *
  by_cases h0 : x.size = 0
  · have hr : Hid (v = false) := Lib.hid (by rw [hres.out, decide_eq_true h0]; rfl)
    have hx0 : x = ⟨#[]⟩ := by
      have : x.data = #[] := Array.eq_empty_of_size_eq_zero h0
      cases x; cases this; rfl
    subst hx0
    clear hres
    go_enter Try.func38, Try.ntmps38
    go_wp2
    go_ret
    exact ⟨ret_bo (by rw [hr.out]; rfl), rfl⟩
  · have hr : Hid (v = u) := Lib.hid (by rw [hres.out, decide_eq_false h0]; simp)
    have g1 := isEmpty9 x h0
    replace h0 := Lib.hid h0
    clear hres
    go_enter Try.func38, Try.ntmps38
    go_wp2_with fail
    refine (hc.out _).mono ?_
    rintro e w1 ⟨rfl, rfl⟩
    go_wp2
    go_ret
    exact ⟨ret_bo (by rw [hr.out]), rfl⟩
set_option maxHeartbeats 800000 in
theorem idx_wrong9 (A : Option Addr) (n c : Nat) (ps : List ByteArray) (wd : Int) (p : Addr) {v : Bool} (hv : ps.all (wordB wd) = v) (w : World) (h : Strs w A n ps) (hn : n ≤ 1048576) (hg : ∀ s ∈ ps, s.size ≤ maxLen) (hp : w.cell? p = some (.int .i64 wd)) :
    Calls Try.prog 57 #[.slice A n c, .func (.func 38) #[] #[.pointer (some p)]] w fun e w' => (∃ i : Int, e = .returned (.int .i64 i) ∧ decide (0 ≤ i) = !v) ∧ w = w' := by
  have hv0 := Lib.hid hv
  have hl := Lib.hid h.1
  have hg0 := Lib.hid hg
  clear hv hg
  go_enter Try.func57, Try.ntmps57
  go_wp2
  go_loopw [8] (fun i wr => ∃ k : Nat, k ≤ n ∧ i = .int .i64 k ∧ w = wr ∧ ps.all (wordB wd) = (ps.drop k).all (wordB wd)) (fun i _ => n - (intOf i).toNat)
  case atStart => exact ⟨0, by omega, rfl, rfl, rfl⟩
  case round =>
    obtain ⟨k, hk, rfl, rfl, he⟩ := hrel
    replace he := Lib.hid he
    by_cases hlt : k < n
    · obtain ⟨b, off, x, rfl, hb, hx, c0⟩ := str_at h hlt
      have hst := Lib.hid (all8_drop (p := wordB wd) hx.out)
      have hxs := hg0.out x (List.mem_of_getElem? hx.out)
      have hk0 : (0 : Int) ≤ (k : Int) := Int.natCast_nonneg _
      have hk1 : (k : Int) < (n : Int) := by omega
      cases h1 : wordB wd x with
      | false =>
        have hr : Hid (v = false) := Lib.hid (by rw [← hv0.out, he.out, hst.out]; simp only [h1]; rfl)
        have hj := Lib.hid (wrong9 x hxs wd p h1 w hp)
        clear h1
        go_wp2_with fail
        refine (hj.out).mono ?_
        rintro e w1 ⟨rfl, rfl⟩
        go_wp2
        go_ret
        exact ⟨⟨_, rfl, by rw [hr.out]; simp⟩, rfl⟩
      | true =>
        have hnx : Hid (ps.all (wordB wd) = (ps.drop (k + 1)).all (wordB wd)) := Lib.hid (by rw [he.out, hst.out]; simp only [h1]; rfl)
        have hj := Lib.hid (wrong9 x hxs wd p h1 w hp)
        clear h1
        go_wp2_with fail
        refine (hj.out).mono ?_
        rintro e w1 ⟨rfl, rfl⟩
        go_wp2
        go_roundw
        case rel => exact ⟨k + 1, by omega, by go_num, by trivial, hnx.out⟩
        case measure => simp [intOf]; omega
    · obtain rfl : k = n := by omega
      have hr : Hid (v = true) := Lib.hid (by rw [← hv0.out, he.out, all8_end (by rw [hl.out]; omega)])
      go_wp2
      go_ret
      exact ⟨⟨_, rfl, by rw [hr.out]; rfl⟩, rfl⟩
theorem has_wrong9 (A : Option Addr) (n c : Nat) (ps : List ByteArray) (wd : Int) (p : Addr) {v : Bool} (hv : ps.all (wordB wd) = v) (w : World) (h : Strs w A n ps) (hn : n ≤ 1048576) (hg : ∀ s ∈ ps, s.size ≤ maxLen) (hp : w.cell? p = some (.int .i64 wd)) :
    Calls Try.prog 40 #[.slice A n c, .func (.func 38) #[] #[.pointer (some p)]] w fun e w' => e = .returned (.bool (!v)) ∧ w = w' := by
  have hi := Lib.hid (idx_wrong9 A n c ps wd p hv w h hn hg hp)
  clear hv h hn hg hp
  go_enter Try.func40, Try.ntmps40
  go_wp2_with fail
  refine (hi.out).mono ?_
  rintro e w1 ⟨⟨i, rfl, hd⟩, rfl⟩
  replace hd := Lib.hid hd
  go_wp2
  go_ret
  exact ⟨ret_bo hd.out, rfl⟩
set_option maxHeartbeats 800000 in
theorem vt9_implV (A : Option Addr) (n c : Nat) (ws : List ByteArray) (wd : Int) {v : Bool} (hv : okW ws wd = v) (w : World) (h : Strs w A n ws) (hn : n ≤ 1048576) (hg : ∀ x ∈ ws, x.size ≤ maxLen) :
    Calls Try.prog 14 #[.slice A n c, .int .i64 wd] w fun e w' => e = .returned (.bool v) ∧ Below w.heap.size w w' := by
  have hl := Lib.hid h.1
  have hres : Hid (v = (inR wd 1 80 && (decide (n ≤ 40) && ws.all (wordB wd)))) := Lib.hid (by rw [← hv, okW_impl, hl.out])
  clear hv
  cases h1 : inR wd 1 80 with
  | false =>
    have hr : Hid (v = false) := Lib.hid (by rw [hres.out, h1]; rfl)
    have hc := Lib.hid (fun W => in8_impl h1 W)
    clear h1 h hg
    go_enter Try.func14, Try.ntmps14
    go_wp2_with fail
    refine (hc.out _).mono ?_
    rintro e w1 ⟨rfl, rfl⟩
    go_wp2
    go_ret
    exact ⟨ret_bo hr.out.symm, below_a1 _ _⟩
  | true =>
    have hc := Lib.hid (fun W => in8_impl h1 W)
    by_cases h40 : n ≤ 40
    · have hr : Hid (ws.all (wordB wd) = v) := Lib.hid (by rw [hres.out, h1, decide_eq_true h40]; rfl)
      have g1 : decide ((40 : Int) < (n : Int)) = false := decide_eq_false (by omega)
      have hha := Lib.hid (fun W p hW hp => has_wrong9 A n c ws wd p hr.out W hW hn hg hp)
      replace h40 := Lib.hid h40
      clear h1 hres
      go_enter Try.func14, Try.ntmps14
      go_wp2_with fail
      refine (hc.out _).mono ?_
      rintro e w1 ⟨rfl, rfl⟩
      go_wp2_with fail
      refine (hha.out _ _ (h.below (below_a1 _ _)) (cell_new rfl rfl)).mono ?_
      rintro e w1 ⟨rfl, rfl⟩
      go_wp2
      go_ret
      exact ⟨by cases v <;> rfl, below_a1 _ _⟩
    · have hr : Hid (v = false) := Lib.hid (by rw [hres.out, decide_eq_false h40]; simp)
      have g1 : decide ((40 : Int) < (n : Int)) = true := decide_eq_true (by omega)
      replace h40 := Lib.hid h40
      clear h1 h hg hres
      go_enter Try.func14, Try.ntmps14
      go_wp2_with fail
      refine (hc.out _).mono ?_
      rintro e w1 ⟨rfl, rfl⟩
      go_wp2
      go_ret
      exact ⟨ret_bo hr.out.symm, below_a1 _ _⟩
theorem vt9_impl (A : Option Addr) (n c : Nat) (ws : List ByteArray) (wd : Int) (w : World) (h : Strs w A n ws) (hn : n ≤ 1048576) (hg : ∀ x ∈ ws, strGood x) (hw : (Lit.int .i64 wd).wf = true) :
    Calls Try.prog 14 #[.slice A n c, .int .i64 wd] w fun e w' => e = .returned (.bool (okW ws wd)) ∧ Below w.heap.size w w' := vt9_implV A n c ws wd rfl w h hn hg
theorem join_len9 : ∀ (ws : List ByteArray), (Lib.join (ws.map (·.data.toList)) [32]).length = longN ws
  | [] => rfl
  | [x] => by
    have : x.data.toList.length = x.size := rfl
    simp only [Lib.join, List.intercalate, List.map_cons, List.map_nil, List.intersperse_singleton, List.flatten_cons, List.flatten_nil, List.append_nil, this, longN, sizN, List.length_cons, List.length_nil]
    omega
  | x :: y :: r => by
    have ih := join_len9 (y :: r)
    simp only [Lib.join, List.intercalate, List.map_cons] at ih ⊢
    rw [List.intersperse_cons_cons, List.flatten_cons, List.flatten_cons, List.length_append, List.length_append, ih]
    have : x.data.toList.length = x.size := rfl
    simp only [this, longN, sizN, List.length_cons, List.length_nil]
    omega
/-- Words, with one blank between two of them. -/
def blankB (ws : List ByteArray) : ByteArray := ⟨(Lib.join (ws.map (·.data.toList)) [32]).toArray⟩
theorem blankB_size (ws : List ByteArray) : (blankB ws).size = longN ws := by
  rw [← join_len9 ws]
  simp [blankB, ByteArray.size]
theorem strs_cells {w : World} {b off n : Nat} {xs : List ByteArray} (h : Strs w (some ⟨b, off, none⟩) n xs) (hn : 0 < n) : b < w.heap.size ∧ ∀ (j : Nat) x, xs[j]? = some x → w.cell? ⟨b, off + j, none⟩ = some (.string x) := by
  obtain ⟨b', off', e, hb, hc⟩ := h.2 hn
  cases e
  refine ⟨hb, fun j x hx => ?_⟩
  have := hc j x hx 0 _ rfl
  simpa using this
theorem with9_impl (b off n c : Nat) (ws : List ByteArray) (w : World) (h : Strs w (some ⟨b, off, none⟩) n ws) (hn0 : 0 < n) (hn : n ≤ 1000) (hc : n ≤ c) (hs : ∀ x ∈ ws, x.size ≤ 1000) :
    Calls Try.prog 54 #[.slice (some ⟨b, off, none⟩) n c] w fun e w' => e = .returned (.string (blankB ws)) ∧ Below w.heap.size w w' := by
  have hl := h.1
  obtain ⟨hb, hcells⟩ := strs_cells h hn0
  have hjl : (Lib.join (ws.map (·.data.toList)) (⟨#[32]⟩ : ByteArray).data.toList).length ≤ 140737488355328 := by
    show (Lib.join (ws.map (·.data.toList)) [32]).length ≤ _
    rw [join_len9]
    have := long_le (M := 1000) hs
    have : 1001 * ws.length ≤ 1001 * 1000 := Nat.mul_le_mul_left _ (by omega)
    omega
  have hJ := Lib.hid (Try.strings_Join b off c ws ⟨#[32]⟩ w hcells hb (by rw [hl]; omega) (by rw [hl]; exact hc) hjl)
  rw [hl] at hJ
  clear hjl hcells h
  go_enter Try.func54, Try.ntmps54
  go_wp2_with fail
  refine hJ.out.mono ?_
  rintro e w6 ⟨rfl, hb6⟩
  go_wp2
  go_ret
  exact ⟨rfl, hb6⟩
theorem waste9_impl (b off n c : Nat) (ws : List ByteArray) (wd : Int) (w : World) (h : Strs w (some ⟨b, off, none⟩) n ws) (hn0 : 0 < n) (hn : n ≤ 1000) (hc : n ≤ c) (hs : ∀ x ∈ ws, x.size ≤ 1000) (hw0 : 0 ≤ wd) (hw1 : wd ≤ 1000) :
    Calls Try.prog 49 #[.slice (some ⟨b, off, none⟩) n c, .int .i64 wd] w fun e w' => e = .returned (.int .i64 (wd - (longN ws : Int))) ∧ Below w.heap.size w w' := by
  have hc1 := Lib.hid (with9_impl b off n c ws w h hn0 hn hc hs)
  have hz := blankB_size ws
  have hlw := long_le (M := 1000) hs
  have : 1001 * ws.length ≤ 1001 * 1000 := Nat.mul_le_mul_left _ (by have := h.1; omega)
  have hwr : IntKind.i64.wrap (wd - (longN ws : Int)) = wd - (longN ws : Int) := IntWalk.i64_in _ (by omega)
  clear h hs hlw this
  generalize blankB ws = B at *
  generalize longN ws = L at *
  subst hz
  go_enter Try.func49, Try.ntmps49
  go_wp2_with fail
  refine hc1.out.mono ?_
  rintro e w6 ⟨rfl, hb6⟩
  go_wp2
  go_ret
  exact ⟨rfl, hb6⟩
theorem view0 {w : World} {A : Option Addr} {n e : Nat} {xs : List ByteArray} (h : Strs w A n xs) (h0 : 0 < e) (he : e ≤ n) : ∃ b off, A = some ⟨b, off, none⟩ ∧ b < w.heap.size ∧ Strs w (some ⟨b, off, none⟩) e (xs.take e) := by
  obtain ⟨b, off, rfl, hb, hV⟩ := view9 h (a := 0) (e := e) h0 he
  exact ⟨b, off, rfl, hb, hV⟩
set_option maxRecDepth 100000 in
set_option maxHeartbeats 1600000 in
theorem fit9_impl (A : Option Addr) (n c : Nat) (ws : List ByteArray) (W : Nat) (hW : W ≤ 1000) (w : World) (h : Strs w A n ws) (hn : n ≤ 1000) (hc : n ≤ c) (hs : ∀ x ∈ ws, x.size ≤ 1000) :
    Calls Try.prog 58 #[.slice A n c, .int .i64 (W : Int)] w fun e w' => e = .returned (.int .i64 (fitN W ws : Int)) ∧ Below w.heap.size w w' := by
  have hl := Lib.hid h.1
  have hs0 := Lib.hid hs
  have hfle := fit_le W ws
  rw [hl.out] at hfle
  have hfi := Lib.hid (fun j hj => fit_iff W ws j hj)
  obtain ⟨F, hF⟩ : ∃ F, fitN W ws = F := ⟨_, rfl⟩
  rw [hF] at hfle hfi ⊢
  clear hs hF
  go_enter Try.func58, Try.ntmps58
  go_wp2
  go_loopw [5] (fun i wr => ∃ k : Nat, k ≤ F ∧ i = .int .i64 (k : Int) ∧ Below w.heap.size w wr) (fun i _ => n - (intOf i).toNat)
  case atStart => exact ⟨0, by omega, rfl, Below.refl _ _⟩
  case round =>
    rename World => wr
    obtain ⟨k, hk, rfl, hbw⟩ := hrel
    have hwz := hbw.size
    by_cases hlt : k < n
    · obtain ⟨b, off, rfl, hb, hV⟩ := view0 (h.below hbw) (e := k + 1) (by omega) (by omega)
      have hwa := Lib.hid (waste9_impl b off (k + 1) c (ws.take (k + 1)) (W : Int) wr hV (by omega) (by omega) (by omega) (fun x hx => hs0.out x (List.mem_of_mem_take hx)) (by omega) (by omega))
      have hfk := hfi.out (k + 1) (by rw [hl.out]; omega)
      have hw1 : IntKind.i64.wrap ((k : Int) + 1) = ((k + 1 : Nat) : Int) := by rw [IntWalk.i64_in _ (by omega)]; omega
      have hk0 : (0 : Int) ≤ (k : Int) := Int.natCast_nonneg _
      have hk1 : (k : Int) < (n : Int) := by omega
      generalize longN (ws.take (k + 1)) = LN at *
      by_cases hfit : LN ≤ W
      · have hkF := hfk.1 hfit
        have g1 : decide ((0 : Int) ≤ (W : Int) - (LN : Int)) = true := decide_eq_true (by omega)
        clear hfk hV
        go_wp2_with fail
        refine hwa.out.mono ?_
        rintro e w1 ⟨rfl, hb1⟩
        have hbw1 := hbw.trans (hb1.mono hwz)
        go_wp2
        go_roundw
        case rel => exact ⟨k + 1, hkF, by go_num, hbw1⟩
        case measure => simp [intOf]; omega
      · have hkF : Hid (k = F) := Lib.hid (by have := fun hh => hfit (hfk.2 hh); omega)
        have g1 : decide ((0 : Int) ≤ (W : Int) - (LN : Int)) = false := decide_eq_false (by omega)
        clear hfk hV
        go_wp2_with fail
        refine hwa.out.mono ?_
        rintro e w1 ⟨rfl, hb1⟩
        have hbw1 := hbw.trans (hb1.mono hwz)
        go_wp2
        go_ret
        exact ⟨by rw [← hkF.out]; rfl, hbw1⟩
    · have hkF : Hid (k = F) := Lib.hid (by omega)
      have hk1 : ¬ (k : Int) < (n : Int) := by omega
      go_wp2
      go_ret
      exact ⟨by rw [← hkF.out]; rfl, hbw⟩
end Go.Proofs.Ytcaojaaooadeaaa
