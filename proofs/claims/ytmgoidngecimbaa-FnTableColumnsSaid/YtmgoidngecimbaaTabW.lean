/- Widths of columns: whether they are some; the stops for them, and the widest gap. -/
import Derived.Test.YtmgoidngecimbaaTab0
import Derived.Test.YtmgoidngecimbaaOwn8
namespace Go.Proofs.Ytmgoidngecimbaa
open Go.RowKit Go.ChangeShapes Go.WideShapes Go.Deep
set_option linter.unusedVariables false
set_option linter.unusedSimpArgs false

def widthB (x : Int) : Bool := inR x 0 120
def widthsB (ws : List Int) : Bool := ws.all widthB && inR (ws.length : Int) 1 12
/-- Where the next column begins, behind columns of these widths. -/
def atN (gap : Int) : Int → List Int → Int
  | a, [] => a
  | a, x :: r => atN gap (a + x + gap) r
def stopsL (gap : Int) : Int → List Int → List Int
  | _, [] => []
  | a, x :: r => a :: stopsL gap (a + x + gap) r
theorem atN_snoc (gap : Int) : ∀ (ws : List Int) (a x : Int), atN gap a (ws ++ [x]) = atN gap a ws + x + gap
  | [], _, _ => rfl
  | y :: r, a, x => atN_snoc gap r _ x
theorem stopsL_snoc (gap : Int) : ∀ (ws : List Int) (a x : Int), stopsL gap a (ws ++ [x]) = stopsL gap a ws ++ [atN gap a ws]
  | [], _, _ => rfl
  | y :: r, a, x => by simp only [List.cons_append, stopsL, atN, stopsL_snoc gap r]
theorem stopsL_len (gap : Int) : ∀ (ws : List Int) (a : Int), (stopsL gap a ws).length = ws.length
  | [], _ => rfl
  | y :: r, a => by simp only [stopsL, List.length_cons, stopsL_len gap r]
theorem atN_range (gap : Int) (h0 : 0 ≤ gap) (h1 : gap ≤ 120) : ∀ (ws : List Int) (a : Int), (∀ x ∈ ws, 0 ≤ x ∧ x ≤ 120) → a ≤ atN gap a ws ∧ atN gap a ws ≤ a + 240 * (ws.length : Int)
  | [], a, _ => by simp [atN]
  | y :: r, a, h => by
    have := h y (by simp)
    have h2 := atN_range gap h0 h1 r (a + y + gap) (fun x hx => h x (by simp [hx]))
    simp only [atN, List.length_cons]
    omega
def stopsR (ws : List Int) (left gap : Int) : List Int × Int :=
  if (widthsB ws && inR left 0 119 && inR gap 1 120) = true then (if decide (atN gap left ws - gap ≤ 120) && rackB (stopsL gap left ws) then (stopsL gap left ws, 0) else ([], 5)) else ([], 2)
def sumI : List Int → Int
  | [] => 0
  | x :: r => x + sumI r
theorem sumI_snoc : ∀ (l : List Int) (x : Int), sumI (l ++ [x]) = sumI l + x
  | [], x => by simp [sumI]
  | y :: r, x => by simp only [List.cons_append, sumI, sumI_snoc r x]; omega
theorem sumI_range : ∀ (ws : List Int), (∀ x ∈ ws, 0 ≤ x ∧ x ≤ 120) → 0 ≤ sumI ws ∧ sumI ws ≤ 120 * (ws.length : Int)
  | [], _ => by simp [sumI]
  | y :: r, h => by
    have := h y (by simp)
    have h2 := sumI_range r (fun x hx => h x (by simp [hx]))
    simp only [sumI, List.length_cons]
    omega
def gapOk (ws : List Int) (left right : Int) : Bool := widthsB ws && inR left 0 120 && inR right left 120
theorem gapOk_eq (ws : List Int) (left right : Int) : gapOk ws left right = (widthsB ws && inR right 0 120 && inR left 0 right) := by
  unfold gapOk
  rw [Bool.and_assoc, Bool.and_assoc]
  congr 1
  apply Bool.eq_iff_iff.2
  simp only [Bool.and_eq_true, inR_iff]
  omega
def gapR (ws : List Int) (left right : Int) : Int × Int :=
  if gapOk ws left right = true then (if ws.length = 1 then (0, 6) else if right - left - sumI ws < (ws.length : Int) - 1 then (0, 5) else ((right - left - sumI ws).tdiv ((ws.length : Int) - 1), 0)) else (0, 2)
theorem widthsB_len {ws : List Int} (h : widthsB ws = true) : 1 ≤ ws.length ∧ ws.length ≤ 12 ∧ ∀ x ∈ ws, 0 ≤ x ∧ x ≤ 120 := by
  simp only [widthsB, Bool.and_eq_true, inR_iff, List.all_eq_true, widthB] at h
  exact ⟨by omega, by omega, h.1⟩

set_option maxHeartbeats 800000 in
theorem cw_spec (A : Option Addr) (n c : Nat) (ws : List Int) {v : Bool} (hv : widthsB ws = v) (w : World) (h : Ints w A n ws) (hn : n ≤ 1048576) :
    Calls Try.prog 47 #[.slice A n c] w fun e w' => e = .returned (.bool v) ∧ Below w.heap.size w w' := by
  have hl0 := h.1
  have hres : Hid (v = (ws.all widthB && inR (n : Int) 1 12)) := Lib.hid (by rw [← hv, widthsB, hl0])
  replace hl0 := Lib.hid hl0
  clear hv
  go_enter Try.func47, Try.ntmps47
  go_wp2
  go_loopw [3] (fun i wr => ∃ k : Nat, k ≤ n ∧ i = .int .i64 k ∧ Below w.heap.size w wr ∧ ws.all widthB = (ws.drop k).all widthB) (fun i _ => n - (intOf i).toNat)
  case atStart => exact ⟨0, by omega, rfl, Below.refl _ _, rfl⟩
  case round =>
    obtain ⟨k, hk, rfl, hbw, he⟩ := hrel
    replace he := Lib.hid he
    by_cases hlt : k < n
    · obtain ⟨b, off, x, rfl, hb, hx, c0⟩ := int_at (h.below hbw) hlt
      have hst := Lib.hid (all8_drop (p := widthB) hx.out)
      cases h1 : inR x 0 120 with
      | false =>
        have hr : Hid (v = false) := Lib.hid (by rw [hres.out, he.out, hst.out, widthB, h1]; rfl)
        have hj := Lib.hid (fun W => in8_spec h1 W)
        clear h1
        go_wp2_with fail
        refine (hj.out _).mono ?_
        rintro e w' ⟨rfl, rfl⟩
        go_wp2
        go_ret
        exact ⟨ret_bo hr.out.symm, hbw⟩
      | true =>
        have hnext : Hid (ws.all widthB = (ws.drop (k + 1)).all widthB) := Lib.hid (by rw [he.out, hst.out, widthB, h1]; rfl)
        have hj := Lib.hid (fun W => in8_spec h1 W)
        clear h1
        go_wp2_with fail
        refine (hj.out _).mono ?_
        rintro e w' ⟨rfl, rfl⟩
        go_wp2
        go_roundw
        case rel => exact ⟨k + 1, by omega, by go_num, hbw, hnext.out⟩
        case measure => simp [intOf]; omega
    · obtain rfl : k = n := by omega
      have hr : Hid (v = inR (k : Int) 1 12) := Lib.hid (by rw [hres.out, he.out, all8_end (by rw [hl0.out]; exact Nat.le_refl _)]; rfl)
      have hin := Lib.hid (fun W => in8_spec (n := (k : Int)) (lo := 1) (hi := 12) rfl W)
      clear hres
      generalize inR (k : Int) 1 12 = u at *
      go_wp2_with fail
      refine (hin.out _).mono ?_
      rintro e w' ⟨rfl, rfl⟩
      go_wp2
      go_ret
      exact ⟨ret_bo hr.out.symm, hbw⟩
theorem wrongW_clo (x : Int) {v : Bool} (hv : widthB x = v) (w : World) :
    Calls Try.prog 68 #[.int .i64 x] w fun e w' => e = .returned (.bool (!v)) ∧ w = w' := by
  have hc := Lib.hid (fun W => in8_impl (n := x) (lo := 0) (hi := 120) hv W)
  clear hv
  go_enter Try.func68, Try.ntmps68
  go_wp2_with fail
  refine (hc.out _).mono ?_
  rintro e w1 ⟨rfl, rfl⟩
  go_wp2
  go_ret
  exact ⟨rfl, rfl⟩
theorem idx_wrongW (A : Option Addr) (n c : Nat) (ps : List Int) {v : Bool} (hv : ps.all widthB = v) (w : World) (h : Ints w A n ps) (hn : n ≤ 1048576) :
    Calls Try.prog 85 #[.slice A n c, .func (.func 68) #[] #[]] w fun e w' => (∃ i : Int, e = .returned (.int .i64 i) ∧ decide (0 ≤ i) = !v) ∧ Below w.heap.size w w' := by
  have hv0 := Lib.hid hv
  have hl := Lib.hid h.1
  clear hv
  go_enter Try.func85, Try.ntmps85
  go_wp2
  go_loopw [8] (fun i wr => ∃ k : Nat, k ≤ n ∧ i = .int .i64 k ∧ Below w.heap.size w wr ∧ ps.all widthB = (ps.drop k).all widthB) (fun i _ => n - (intOf i).toNat)
  case atStart => exact ⟨0, by omega, rfl, Below.refl _ _, rfl⟩
  case round =>
    obtain ⟨k, hk, rfl, hbw, he⟩ := hrel
    replace he := Lib.hid he
    by_cases hlt : k < n
    · obtain ⟨b, off, x, rfl, hb, hx, c0⟩ := int_at (h.below hbw) hlt
      have hst := Lib.hid (all8_drop (p := widthB) hx.out)
      have hk0 : (0 : Int) ≤ (k : Int) := Int.natCast_nonneg _
      have hk1 : (k : Int) < (n : Int) := by omega
      cases h1 : widthB x with
      | false =>
        have hr : Hid (v = false) := Lib.hid (by rw [← hv0.out, he.out, hst.out]; simp only [h1]; rfl)
        have hj := Lib.hid (fun W => wrongW_clo x h1 W)
        clear h1
        go_wp2_with fail
        refine (hj.out _).mono ?_
        rintro e w1 ⟨rfl, rfl⟩
        go_wp2
        go_ret
        exact ⟨⟨_, rfl, by rw [hr.out]; simp⟩, hbw⟩
      | true =>
        have hnx : Hid (ps.all widthB = (ps.drop (k + 1)).all widthB) := Lib.hid (by rw [he.out, hst.out]; simp only [h1]; rfl)
        have hj := Lib.hid (fun W => wrongW_clo x h1 W)
        clear h1
        go_wp2_with fail
        refine (hj.out _).mono ?_
        rintro e w1 ⟨rfl, rfl⟩
        go_wp2
        go_roundw
        case rel => exact ⟨k + 1, by omega, by go_num, hbw, hnx.out⟩
        case measure => simp [intOf]; omega
    · obtain rfl : k = n := by omega
      have hr : Hid (v = true) := Lib.hid (by rw [← hv0.out, he.out, all8_end (by rw [hl.out]; omega)])
      go_wp2
      go_ret
      exact ⟨⟨_, rfl, by rw [hr.out]; rfl⟩, hbw⟩
theorem has_wrongW (A : Option Addr) (n c : Nat) (ps : List Int) {v : Bool} (hv : ps.all widthB = v) (w : World) (h : Ints w A n ps) (hn : n ≤ 1048576) :
    Calls Try.prog 69 #[.slice A n c, .func (.func 68) #[] #[]] w fun e w' => e = .returned (.bool (!v)) ∧ Below w.heap.size w w' := by
  have hi := Lib.hid (idx_wrongW A n c ps hv w h hn)
  clear hv h
  go_enter Try.func69, Try.ntmps69
  go_wp2_with fail
  refine (hi.out).mono ?_
  rintro e w1 ⟨⟨i, rfl, hd⟩, hb1⟩
  replace hd := Lib.hid hd
  go_wp2
  go_ret
  exact ⟨ret_bo hd.out, hb1⟩
theorem cw_impl (A : Option Addr) (n c : Nat) (ws : List Int) {v : Bool} (hv : widthsB ws = v) (w : World) (h : Ints w A n ws) (hn : n ≤ 1048576) :
    Calls Try.prog 44 #[.slice A n c] w fun e w' => e = .returned (.bool v) ∧ Below w.heap.size w w' := by
  have hl := h.1
  cases h0 : inR (n : Int) 1 12 with
  | false =>
    have hr : Hid (v = false) := Lib.hid (by rw [← hv, widthsB, hl, h0]; simp)
    replace h0 := Lib.hid h0
    clear hv hl
    go_enter Try.func44, Try.ntmps44
    go_wp2_with fail
    refine (in8_impl h0.out _).mono ?_
    rintro e w1 ⟨rfl, rfl⟩
    go_wp2
    go_ret
    exact ⟨ret_bo hr.out.symm, Below.refl _ _⟩
  | true =>
    have hr : ws.all widthB = v := by rw [← hv, widthsB, hl, h0]; simp
    have hc := Lib.hid (has_wrongW A n c ws hr w h hn)
    replace h0 := Lib.hid h0
    clear hv hl hr
    go_enter Try.func44, Try.ntmps44
    go_wp2_with fail
    refine (in8_impl h0.out _).mono ?_
    rintro e w1 ⟨rfl, rfl⟩
    go_wp2_with fail
    refine hc.out.mono ?_
    rintro e w1 ⟨rfl, hb1⟩
    go_wp2
    go_ret
    exact ⟨by cases v <;> rfl, hb1⟩
theorem sum8_spec (A : Option Addr) (n c : Nat) (ws : List Int) (hn : n ≤ 12) (hg : ∀ x ∈ ws, 0 ≤ x ∧ x ≤ 120) (w : World) (h : Ints w A n ws) {v : Int} (hv : sumI ws = v) :
    Calls Try.prog 49 #[.slice A n c] w fun e w' => e = .returned (.int .i64 v) ∧ Below w.heap.size w w' := by
  have hl := Lib.hid h.1
  have hv0 := Lib.hid hv
  have hr := Lib.hid (fun k => sumI_range (ws.take k) (fun x hx => hg x (List.mem_of_mem_take hx)))
  have hg0 := Lib.hid hg
  clear hv hg
  go_enter Try.func49, Try.ntmps49
  go_wp2
  go_loopw [3, 4] (fun s i wr => ∃ k : Nat, k ≤ n ∧ i = .int .i64 k ∧ s = .int .i64 (sumI (ws.take k)) ∧ Below w.heap.size w wr) (fun _ i _ => n - (intOf i).toNat)
  case atStart => exact ⟨0, by omega, rfl, rfl, Below.refl _ _⟩
  case round =>
    obtain ⟨k, hk, rfl, rfl, hbw⟩ := hrel
    by_cases hlt : k < n
    · obtain ⟨b, off, x, rfl, hb, hx, c0⟩ := int_at (h.below hbw) hlt
      have hst := Lib.hid (show sumI (ws.take (k + 1)) = sumI (ws.take k) + x by rw [take8 hx.out, sumI_snoc])
      obtain ⟨r0, r1⟩ := hr.out k
      have hlk : (ws.take k).length ≤ 12 := by rw [List.length_take, hl.out]; omega
      have hxx := hg0.out x (List.mem_of_getElem? hx.out)
      have hwr : IntKind.i64.wrap (sumI (ws.take k) + x) = sumI (ws.take k) + x := IntWalk.i64_in _ (by omega)
      generalize sumI (ws.take k) = a at *
      clear r0 r1 hlk hxx
      go_wp2
      go_roundw
      case rel => exact ⟨k + 1, by omega, by go_num, by rw [hst.out], hbw⟩
      case measure => simp [intOf]; omega
    · obtain rfl : k = n := by omega
      have hq : Hid (sumI (ws.take k) = v) := Lib.hid (by rw [List.take_of_length_le (by rw [hl.out]; omega)]; exact hv0.out)
      go_wp2
      go_ret
      exact ⟨ret_i64 hq.out, hbw⟩

theorem stopsR_no1 {ws : List Int} {left gap : Int} (h : widthsB ws = false) : stopsR ws left gap = ([], 2) := by simp [stopsR, h]
theorem stopsR_no2 {ws : List Int} {left gap : Int} (h : inR left 0 119 = false) : stopsR ws left gap = ([], 2) := by simp [stopsR, h]
theorem stopsR_no3 {ws : List Int} {left gap : Int} (h : inR gap 1 120 = false) : stopsR ws left gap = ([], 2) := by simp [stopsR, h]
theorem stopsR_yes {ws : List Int} {left gap : Int} (h1 : widthsB ws = true) (h2 : inR left 0 119 = true) (h3 : inR gap 1 120 = true) :
    stopsR ws left gap = if decide (atN gap left ws - gap ≤ 120) && rackB (stopsL gap left ws) then (stopsL gap left ws, 0) else ([], 5) := by simp [stopsR, h1, h2, h3]

set_option maxRecDepth 100000 in
set_option maxHeartbeats 3200000 in
theorem sf_spec (A : Option Addr) (n c : Nat) (ws : List Int) (left gap : Int) (w : World) (h : Ints w A n ws) (hn : n ≤ 1048576) (hx : ∀ x ∈ ws, intGood x) (hlw : (Lit.int .i64 left).wf = true) (hgw : (Lit.int .i64 gap).wf = true) :
    Calls Try.prog 12 #[.slice A n c, .int .i64 left, .int .i64 gap] w (IOut (stopsR ws left gap) w) := by
  generalize hr : stopsR ws left gap = r
  replace hr := Lib.hid hr.symm
  have hl := Lib.hid h.1
  clear hx hlw hgw
  cases h1 : widthsB ws with
  | false =>
    have hres : Hid (r = ([], 2)) := Lib.hid (by rw [hr.out, stopsR_no1 h1])
    have hc1 := Lib.hid (cw_spec A n c ws h1 w h hn)
    clear h1 hr h
    go_enter Try.func12, Try.ntmps12
    go_wp2_with fail
    refine hc1.out.mono ?_
    rintro e w1 ⟨rfl, hb1⟩
    go_wp2
    go_ret2
    exact IOut.bad hres.out hb1
  | true =>
    have hc1 := Lib.hid (cw_spec A n c ws h1 w h hn)
    cases h2 : inR left 0 119 with
    | false =>
      have hres : Hid (r = ([], 2)) := Lib.hid (by rw [hr.out, stopsR_no2 h2])
      have hc2 := Lib.hid (fun W => in8_spec h2 W)
      clear h1 h2 hr h
      go_enter Try.func12, Try.ntmps12
      go_wp2_with fail
      refine hc1.out.mono ?_
      rintro e w1 ⟨rfl, hb1⟩
      go_wp2_with fail
      refine (hc2.out _).mono ?_
      rintro e w2 ⟨rfl, rfl⟩
      go_wp2
      go_ret2
      exact IOut.bad hres.out hb1
    | true =>
      have hc2 := Lib.hid (fun W => in8_spec h2 W)
      cases h3 : inR gap 1 120 with
      | false =>
        have hres : Hid (r = ([], 2)) := Lib.hid (by rw [hr.out, stopsR_no3 h3])
        have hc3 := Lib.hid (fun W => in8_spec h3 W)
        clear h1 h2 h3 hr h
        go_enter Try.func12, Try.ntmps12
        go_wp2_with fail
        refine hc1.out.mono ?_
        rintro e w1 ⟨rfl, hb1⟩
        go_wp2_with fail
        refine (hc2.out _).mono ?_
        rintro e w2 ⟨rfl, rfl⟩
        go_wp2_with fail
        refine (hc3.out _).mono ?_
        rintro e w2 ⟨rfl, rfl⟩
        go_wp2
        go_ret2
        exact IOut.bad hres.out hb1
      | true =>
        have hc3 := Lib.hid (fun W => in8_spec h3 W)
        have hres := Lib.hid (hr.out.trans (stopsR_yes h1 h2 h3))
        obtain ⟨n1, n12, hwr⟩ := widthsB_len h1
        rw [hl.out] at n1 n12
        obtain ⟨l0, l1⟩ := inR_iff.1 h2
        obtain ⟨p0, p1⟩ := inR_iff.1 h3
        have hrg := Lib.hid (fun k => atN_range gap (by omega) p1 (ws.take k) left (fun x hx => hwr x (List.mem_of_mem_take hx)))
        have hww := Lib.hid hwr
        obtain ⟨i0, hi, hz0, hz1, hz2⟩ := info_parts Try.infoI64
        clear h1 h2 h3 hr hwr
        go_enter Try.func12, Try.ntmps12
        go_wp2_with fail
        refine hc1.out.mono ?_
        rintro e w1 ⟨rfl, hb1⟩
        have hS := h.below hb1
        replace hb1 := Lib.hid hb1
        go_wp2_with fail
        refine (hc2.out _).mono ?_
        rintro e w2 ⟨rfl, rfl⟩
        go_wp2_with fail
        refine (hc3.out _).mono ?_
        rintro e w2 ⟨rfl, rfl⟩
        clear hc1 hc2 hc3 h
        go_wp2
        go_loopw [8, 9, 10] (fun v a i wr => ∃ k : Nat, k ≤ n ∧ i = .int .i64 k ∧ a = .int .i64 (atN gap left (ws.take k)) ∧ Below w1.heap.size w1 wr ∧ wr.ownsRow w1.heap.size 2 1 v k ((stopsL gap left (ws.take k)).flatMap intC)) (fun _ _ i _ => n - (intOf i).toNat)
        case atStart => exact ⟨0, by omega, rfl, rfl, below_a1 _ _, owns_new8 w1 _⟩
        case round =>
          obtain ⟨k, hk, rfl, rfl, hbw, hrow⟩ := hrel
          have hwz := hbw.size
          obtain ⟨r0, r1⟩ := hrg.out k
          have hlk : (ws.take k).length ≤ 12 := by rw [List.length_take, hl.out]; omega
          by_cases hlt : k < n
          · obtain ⟨b, off, x, rfl, hb, hx, c0⟩ := int_at (hS.below hbw) hlt
            have hk0 : (0 : Int) ≤ (k : Int) := Int.natCast_nonneg _
            have hk1 : (k : Int) < (n : Int) := by omega
            have hbk : b < w1.heap.size := by obtain ⟨b2, o2, x2, e2, hb2, _⟩ := int_at hS hlt; cases e2; exact hb2
            have hat := Lib.hid (show atN gap left (ws.take (k + 1)) = atN gap left (ws.take k) + x + gap by rw [take8 hx.out, atN_snoc])
            have hsn := Lib.hid (show (stopsL gap left (ws.take (k + 1))).flatMap intC = (stopsL gap left (ws.take k)).flatMap intC ++ [.int .i64 (atN gap left (ws.take k))] by rw [take8 hx.out, stopsL_snoc, snoc8])
            have hxx := hww.out x (List.mem_of_getElem? hx.out)
            have hrl := Lib.hid hrow
            clear hrow
            generalize atN gap left (ws.take k) = a at *
            have s1 : IntKind.i64.wrap (x + gap) = x + gap := IntWalk.i64_in _ (by omega)
            have s2 : IntKind.i64.wrap (a + (x + gap)) = a + (x + gap) := IntWalk.i64_in _ (by omega)
            have hassoc := Lib.hid (show a + x + gap = a + (x + gap) by omega)
            go_wp2_with (at_builtin; refine wpList_append_own _ rfl _ _ 30 rfl w1.heap.size 2 i0 _ 1 8 Try.underlying30 hi hz0 hz1 hz2 rfl (by decide) _ _ _ rfl (hrl.out.alloc _) ⟨wr.heap.size, 0, none⟩ 1 1 [.int .i64 a] rfl rfl (news8 _ _ _) (one8 _) (by unfold maxLen; omega) (by omega) (by simp; omega) ?_)
            intro vqq wqq hownqq hgrqq hnilqq
            have hgqqq := grown_trans (grown_below (below_a1 wr _) _) hgrqq
            clear hgrqq hnilqq
            have hq : Hid (wqq.ownsRow w1.heap.size 2 1 vqq (k + 1) ((stopsL gap left (ws.take (k + 1))).flatMap intC) ∧ Below w1.heap.size w1 wqq) := Lib.hid ⟨by rw [hsn.out]; exact hownqq, hbw.grown hgqqq hwz (fun j hj => owns_ge8 hrl.out hj)⟩
            clear hownqq hgqqq
            have c5 := (hq.out.2.cell (p := ⟨b, off + k, none⟩) hbk).trans ((hbw.cell (p := ⟨b, off + k, none⟩) hbk).symm.trans c0)
            clear c0 hrl
            go_wp2
            go_roundw
            case rel => exact ⟨k + 1, by omega, by go_num, by rw [hat.out, hassoc.out], hq.out.2, hq.out.1⟩
            case measure => simp [intOf]; omega
          · obtain rfl : k = n := by omega
            have hall : ws.take k = ws := List.take_of_length_le (by rw [hl.out]; omega)
            rw [hall]
            rw [hall] at hrow r0 r1 
            have hwl : ws.length ≤ 12 := by rw [hl.out]; omega
            obtain ⟨A', c', rfl, hO⟩ := owns_i8 (by rw [stopsL_len, hl.out]) hrow
            have hO2 := Lib.hid hO
            clear hrow hO hrg hww hlk
            generalize atN gap left ws = a at *
            have s1 : IntKind.i64.wrap (a - gap) = a - gap := IntWalk.i64_in _ (by omega)
            by_cases hA : a - gap ≤ 120
            · have hnA : ¬ (120 : Int) < a - gap := by omega
              rw [decide_eq_true hA, Bool.true_and] at hres
              cases h5 : rackB (stopsL gap left ws) with
              | false =>
                have hbad : Hid (r = ([], 5)) := Lib.hid (by rw [hres.out, h5]; rfl)
                have hok := Lib.hid (ok8_spec A' k c' _ h5 wr hO2.out.srow hn)
                clear h5 hres hall
                go_wp2_with fail
                refine hok.out.mono ?_
                rintro e w3 ⟨rfl, hb3⟩
                go_wp2
                go_ret2
                exact IOut.bad hbad.out ((hb1.out.step hbw).step hb3)
              | true =>
                have hgood : Hid (r = (stopsL gap left ws, 0)) := Lib.hid (by rw [hres.out, h5]; rfl)
                have hcode : Hid (r.2 = 0) := Lib.hid (by rw [hgood.out])
                have hok := Lib.hid (ok8_spec A' k c' _ h5 wr hO2.out.srow hn)
                clear h5 hres hall
                go_wp2_with fail
                refine hok.out.mono ?_
                rintro e w3 ⟨rfl, hb3⟩
                go_wp2
                go_ret2
                exact ⟨A', k, c', by rw [hcode.out]; rfl, hn, by rw [hgood.out]; exact (hO2.out.below hb3).mono hb1.out.size, (hb1.out.step hbw).step hb3⟩
            · have hnA : (120 : Int) < a - gap := by omega
              have hbad : Hid (r = ([], 5)) := Lib.hid (by rw [hres.out, decide_eq_false hA]; rfl)
              clear hres hA hall
              go_wp2
              go_ret2
              exact IOut.bad hbad.out (hb1.out.step hbw)

set_option maxRecDepth 100000 in
set_option maxHeartbeats 3200000 in
theorem sf_impl (A : Option Addr) (n c : Nat) (ws : List Int) (left gap : Int) (w : World) (h : Ints w A n ws) (hn : n ≤ 1048576) (hx : ∀ x ∈ ws, intGood x) (hlw : (Lit.int .i64 left).wf = true) (hgw : (Lit.int .i64 gap).wf = true) :
    Calls Try.prog 11 #[.slice A n c, .int .i64 left, .int .i64 gap] w (IOut (stopsR ws left gap) w) := by
  generalize hr : stopsR ws left gap = r
  replace hr := Lib.hid hr.symm
  have hl := Lib.hid h.1
  clear hx hlw hgw
  cases h1 : widthsB ws with
  | false =>
    have hres : Hid (r = ([], 2)) := Lib.hid (by rw [hr.out, stopsR_no1 h1])
    have hc1 := Lib.hid (cw_impl A n c ws h1 w h hn)
    clear h1 hr h
    go_enter Try.func11, Try.ntmps11
    go_wp2_with fail
    refine hc1.out.mono ?_
    rintro e w1 ⟨rfl, hb1⟩
    go_wp2
    go_ret2
    exact IOut.bad hres.out hb1
  | true =>
    have hc1 := Lib.hid (cw_impl A n c ws h1 w h hn)
    cases h2 : inR left 0 119 with
    | false =>
      have hres : Hid (r = ([], 2)) := Lib.hid (by rw [hr.out, stopsR_no2 h2])
      have hc2 := Lib.hid (fun W => col_impl h2 W)
      clear h1 h2 hr h
      go_enter Try.func11, Try.ntmps11
      go_wp2_with fail
      refine hc1.out.mono ?_
      rintro e w1 ⟨rfl, hb1⟩
      go_wp2_with fail
      refine (hc2.out _).mono ?_
      rintro e w2 ⟨rfl, rfl⟩
      go_wp2
      go_ret2
      exact IOut.bad hres.out hb1
    | true =>
      have hc2 := Lib.hid (fun W => col_impl h2 W)
      cases h3 : inR gap 1 120 with
      | false =>
        have hres : Hid (r = ([], 2)) := Lib.hid (by rw [hr.out, stopsR_no3 h3])
        have hc3 := Lib.hid (fun W => in8_impl h3 W)
        clear h1 h2 h3 hr h
        go_enter Try.func11, Try.ntmps11
        go_wp2_with fail
        refine hc1.out.mono ?_
        rintro e w1 ⟨rfl, hb1⟩
        go_wp2_with fail
        refine (hc2.out _).mono ?_
        rintro e w2 ⟨rfl, rfl⟩
        go_wp2_with fail
        refine (hc3.out _).mono ?_
        rintro e w2 ⟨rfl, rfl⟩
        go_wp2
        go_ret2
        exact IOut.bad hres.out hb1
      | true =>
        have hc3 := Lib.hid (fun W => in8_impl h3 W)
        have hres := Lib.hid (hr.out.trans (stopsR_yes h1 h2 h3))
        obtain ⟨n1, n12, hwr⟩ := widthsB_len h1
        rw [hl.out] at n1 n12
        obtain ⟨l0, l1⟩ := inR_iff.1 h2
        obtain ⟨p0, p1⟩ := inR_iff.1 h3
        have hrg := Lib.hid (fun k => atN_range gap (by omega) p1 (ws.take k) left (fun x hx => hwr x (List.mem_of_mem_take hx)))
        have hww := Lib.hid hwr
        obtain ⟨i0, hi, hz0, hz1, hz2⟩ := info_parts Try.infoI64
        clear h1 h2 h3 hr hwr
        go_enter Try.func11, Try.ntmps11
        go_wp2_with fail
        refine hc1.out.mono ?_
        rintro e w1 ⟨rfl, hb1⟩
        have hS := h.below hb1
        replace hb1 := Lib.hid hb1
        go_wp2_with fail
        refine (hc2.out _).mono ?_
        rintro e w2 ⟨rfl, rfl⟩
        go_wp2_with fail
        refine (hc3.out _).mono ?_
        rintro e w2 ⟨rfl, rfl⟩
        clear hc1 hc2 hc3 h
        go_wp2
        go_loopw [8, 9, 10, 30] (fun v a en i wr => ∃ (k : Nat) (d : Int), k ≤ n ∧ i = .int .i64 k ∧ a = .int .i64 (atN gap left (ws.take k)) ∧ en = .int .i64 d ∧ (0 < k → d = atN gap left (ws.take k) - gap) ∧ Below w1.heap.size w1 wr ∧ wr.ownsRow w1.heap.size 2 1 v k ((stopsL gap left (ws.take k)).flatMap intC)) (fun _ _ _ i _ => n - (intOf i).toNat)
        case atStart => exact ⟨0, left, by omega, rfl, rfl, rfl, fun h => absurd h (by omega), Below.refl _ _, owns_nil8 w1 _ _⟩
        case round =>
          obtain ⟨k, d, hk, rfl, rfl, rfl, hd, hbw, hrow⟩ := hrel
          replace hd := Lib.hid hd
          have hwz := hbw.size
          obtain ⟨r0, r1⟩ := hrg.out k
          have hlk : (ws.take k).length ≤ 12 := by rw [List.length_take, hl.out]; omega
          by_cases hlt : k < n
          · obtain ⟨b, off, x, rfl, hb, hx, c0⟩ := int_at (hS.below hbw) hlt
            have hk0 : (0 : Int) ≤ (k : Int) := Int.natCast_nonneg _
            have hk1 : (k : Int) < (n : Int) := by omega
            have hbk : b < w1.heap.size := by obtain ⟨b2, o2, x2, e2, hb2, _⟩ := int_at hS hlt; cases e2; exact hb2
            have hat := Lib.hid (show atN gap left (ws.take (k + 1)) = atN gap left (ws.take k) + x + gap by rw [take8 hx.out, atN_snoc])
            have hsn := Lib.hid (show (stopsL gap left (ws.take (k + 1))).flatMap intC = (stopsL gap left (ws.take k)).flatMap intC ++ [.int .i64 (atN gap left (ws.take k))] by rw [take8 hx.out, stopsL_snoc, snoc8])
            have hxx := hww.out x (List.mem_of_getElem? hx.out)
            have hrl := Lib.hid hrow
            clear hrow
            generalize atN gap left (ws.take k) = a at *
            have s1 : IntKind.i64.wrap (a + x) = a + x := IntWalk.i64_in _ (by omega)
            have s2 : IntKind.i64.wrap (a + x + gap) = a + x + gap := IntWalk.i64_in _ (by omega)
            go_wp2_with (at_builtin; refine wpList_append_own _ rfl _ _ 30 rfl w1.heap.size 2 i0 _ 1 8 Try.underlying30 hi hz0 hz1 hz2 rfl (by decide) _ _ _ rfl (hrl.out.alloc _) ⟨wr.heap.size, 0, none⟩ 1 1 [.int .i64 a] rfl rfl (news8 _ _ _) (one8 _) (by unfold maxLen; omega) (by omega) (by simp; omega) ?_)
            intro vqq wqq hownqq hgrqq hnilqq
            have hgqqq := grown_trans (grown_below (below_a1 wr _) _) hgrqq
            clear hgrqq hnilqq
            have hq : Hid (wqq.ownsRow w1.heap.size 2 1 vqq (k + 1) ((stopsL gap left (ws.take (k + 1))).flatMap intC) ∧ Below w1.heap.size w1 wqq) := Lib.hid ⟨by rw [hsn.out]; exact hownqq, hbw.grown hgqqq hwz (fun j hj => owns_ge8 hrl.out hj)⟩
            clear hownqq hgqqq
            have c5 := (hq.out.2.cell (p := ⟨b, off + k, none⟩) hbk).trans ((hbw.cell (p := ⟨b, off + k, none⟩) hbk).symm.trans c0)
            clear c0 hrl
            go_wp2
            go_roundw
            case rel => exact ⟨k + 1, a + x, by omega, by go_num, by rw [hat.out], rfl, fun _ => by rw [hat.out]; omega, hq.out.2, hq.out.1⟩
            case measure => simp [intOf]; omega
          · obtain rfl : k = n := by omega
            have hall : ws.take k = ws := List.take_of_length_le (by rw [hl.out]; omega)
            rw [hall]
            rw [hall] at hrow r0 r1
            have hwl : ws.length ≤ 12 := by rw [hl.out]; omega
            obtain ⟨A', c', rfl, hO⟩ := owns_i8 (by rw [stopsL_len, hl.out]) hrow
            have hO2 := Lib.hid hO
            have hdd : d = atN gap left ws - gap := by rw [hd.out (by omega), hall]
            clear hrow hO hrg hww hlk
            generalize atN gap left ws = a at *
            cases h5 : rackB (stopsL gap left ws) with
            | false =>
              have hbad : Hid (r = ([], 5)) := Lib.hid (by rw [hres.out, h5, Bool.and_false]; rfl)
              have hok := Lib.hid (vr_implV A' k c' _ h5 wr hO2.out.srow hn)
              clear h5 hres hall
              go_wp2_with fail
              refine hok.out.mono ?_
              rintro e w3 ⟨rfl, hb3⟩
              go_wp2
              go_ret2
              exact IOut.bad hbad.out ((hb1.out.step hbw).step hb3)
            | true =>
              have hok := Lib.hid (vr_implV A' k c' _ h5 wr hO2.out.srow hn)
              by_cases hA : a - gap ≤ 120
              · have hnA : ¬ (120 : Int) < d := by omega
                have hgood : Hid (r = (stopsL gap left ws, 0)) := Lib.hid (by rw [hres.out, decide_eq_true hA, h5]; rfl)
                have hcode : Hid (r.2 = 0) := Lib.hid (by rw [hgood.out])
                clear h5 hres hall hdd hd hA
                go_wp2_with fail
                refine hok.out.mono ?_
                rintro e w3 ⟨rfl, hb3⟩
                go_wp2
                go_ret2
                exact ⟨A', k, c', by rw [hcode.out]; rfl, hn, by rw [hgood.out]; exact (hO2.out.below hb3).mono hb1.out.size, (hb1.out.step hbw).step hb3⟩
              · have hnA : (120 : Int) < d := by omega
                have hbad : Hid (r = ([], 5)) := Lib.hid (by rw [hres.out, decide_eq_false hA]; rfl)
                clear h5 hres hall hdd hd hA
                go_wp2_with fail
                refine hok.out.mono ?_
                rintro e w3 ⟨rfl, hb3⟩
                go_wp2
                go_ret2
                exact IOut.bad hbad.out ((hb1.out.step hbw).step hb3)
end Go.Proofs.Ytmgoidngecimbaa
