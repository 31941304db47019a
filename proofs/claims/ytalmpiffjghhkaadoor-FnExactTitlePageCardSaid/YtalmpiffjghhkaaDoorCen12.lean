/- Centring: TitlePage of the program. -/
import Derived.Test.YtalmpiffjghhkaaDoorCen10
import Derived.Test.YtalmpiffjghhkaaDoorCen4
namespace Go.Proofs.YtalmpiffjghhkaaDoor
open Go.RowKit Go.ChangeShapes Go.WideShapes Go.Deep
set_option linter.unusedVariables false
set_option linter.unusedSimpArgs false

theorem tests_sett {ls : List ByteArray} (hg : ∀ x ∈ ls, x.size ≤ maxLen) : Tests 39 settB ls := fun x hx W => sett10 x rfl W (hg x hx)
set_option maxHeartbeats 1600000 in
theorem block10s (A : Option Addr) (n c : Nat) (ls : List ByteArray) (p : ByteArray → Bool) (hF : Tests 39 p ls) {v : Bool} (hv : (decide (n ≤ 30) && ls.all p) = v) (w : World) (h : Strs w A n ls) (hn : n ≤ 1048576) :
    Calls Tryd.prog 48 #[.slice A n c, .func (.func 39) #[] #[]] w fun e w' => e = .returned (.bool v) ∧ Below w.heap.size w w' := by
  have hl := Lib.hid h.1
  by_cases h30 : n ≤ 30
  · have hv2 := Lib.hid (show ls.all p = v by rw [← hv, decide_eq_true h30, Bool.true_and])
    have g0 : decide ((30 : Int) < (n : Int)) = false := decide_eq_false (by omega)
    replace hF := Lib.hid hF
    clear hv
    go_enter Tryd.func48, Tryd.ntmps48
    go_wp2
    go_loopw [6, 12] (fun a q wr => ∃ k : Nat, k ≤ n ∧ q = .int .i64 k ∧ (ls.drop k).all p = v ∧ Below w.heap.size w wr) (fun _ q _ => n - (intOf q).toNat)
    case atStart => exact ⟨0, by omega, rfl, hv2.out, Below.refl _ _⟩
    case round =>
      obtain ⟨k, hk, rfl, hall, hbw⟩ := hrel
      by_cases hlt : k < n
      · obtain ⟨bb, off, x, rfl, hb, hx, d0⟩ := str_at (h.below hbw) hlt
        have hcl := Lib.hid (hF.out x (List.mem_of_getElem? hx.out))
        have hal := hall
        rw [all8_drop hx.out] at hal
        have hk0 : (0 : Int) ≤ (k : Int) := Int.natCast_nonneg _
        have hk1 : (k : Int) < (n : Int) := by omega
        replace hall := Lib.hid hall
        cases hp : p x with
        | true =>
          rw [hp, Bool.true_and] at hal
          rw [hp] at hcl
          replace hal := Lib.hid hal
          clear hp
          go_wp2_with fail
          refine (hcl.out _).mono ?_
          rintro e w1 ⟨rfl, hb1⟩
          go_wp2
          go_roundw
          case rel => exact ⟨k + 1, by omega, by go_num, hal.out, hbw.step hb1⟩
          case measure => simp [intOf]; omega
        | false =>
          rw [hp, Bool.false_and] at hal
          rw [hp] at hcl
          replace hal := Lib.hid hal
          clear hp
          go_wp2_with fail
          refine (hcl.out _).mono ?_
          rintro e w1 ⟨rfl, hb1⟩
          go_wp2
          go_ret
          exact ⟨ret_bo hal.out, hbw.step hb1⟩
      · obtain rfl : k = n := by omega
        have g1 : ¬ (k : Int) < (k : Int) := by omega
        have hfin : Hid (true = v) := Lib.hid (by rw [← hall, all8_end (by rw [hl.out]; omega)])
        replace hall := Lib.hid hall
        go_wp2
        go_ret
        exact ⟨ret_bo hfin.out, hbw⟩
  · have g0 : decide ((30 : Int) < (n : Int)) = true := decide_eq_true (by omega)
    have hr : Hid (v = false) := Lib.hid (by rw [← hv, decide_eq_false h30, Bool.false_and])
    replace h30 := Lib.hid h30
    clear hv h
    go_enter Tryd.func48, Tryd.ntmps48
    go_wp2
    go_ret
    exact ⟨ret_bo hr.out.symm, Below.refl _ _⟩
theorem OStrs.put10 {w : World} {base g n i : Nat} {ps : List ByteArray} (x : ByteArray) (h : OStrs w base (some ⟨g, 0, none⟩) n ps) (hi : i < n) : OStrs (w.setCell ⟨g, i, none⟩ (.string x)) base (some ⟨g, 0, none⟩) n (ps.set i x) := by
  rcases h with ⟨hl, ⟨h0, _⟩ | ⟨g', m, f, h1, hb, hr, hm, hf⟩⟩
  · cases h0
  · cases h1
    refine ⟨by simp [hl], .inr ⟨g, m, _, rfl, hb, hr.set i _, hm, fun j y hy q u hu => ?_⟩⟩
    have hj : j < n := by have := (List.getElem?_eq_some_iff.1 hy).1; simpa [hl] using this
    match q, hu with
    | 0, hu =>
      simp [strC] at hu
      subst hu
      refine ⟨by omega, ?_⟩
      by_cases hij : i = j
      · subst hij
        rw [List.getElem?_set_self (by omega)] at hy
        cases hy
        simp
      · rw [List.getElem?_set_ne hij] at hy
        have := (hf j y hy 0 _ rfl).2
        simp only [Nat.mul_one, Nat.add_zero] at this ⊢
        rw [if_neg (fun h => hij h.symm)]
        exact this
    | q + 1, hu => simp [strC] at hu
theorem OStrs.parts10 {w : World} {base g n i : Nat} {ps : List ByteArray} (h : OStrs w base (some ⟨g, 0, none⟩) n ps) (hi : i < n) : ∃ y, w.cell? ⟨g, i, none⟩ = some (.string y) ∧ w.frozen? ⟨g, i, none⟩ = false ∧ g < w.heap.size ∧ base ≤ g := by
  rcases h with ⟨hl, ⟨h0, _⟩ | ⟨g', m, f, h1, hb, hr, hm, hf⟩⟩
  · cases h0
  · cases h1
    have hx : ps[i]? = some ps[i] := List.getElem?_eq_getElem (by omega)
    obtain ⟨h2, h3⟩ := hf i _ hx 0 _ rfl
    rw [Nat.mul_one, Nat.add_zero] at h2 h3
    have h4 := hr.cell (i := i) h2
    rw [h3] at h4
    exact ⟨_, h4, hr.frozen i, hr.lt, hb⟩
theorem OStrs.made10 (w : World) (n : Nat) : OStrs (w.alloc (.cells (madeCells #[.string ⟨#[]⟩] n) 9)) w.heap.size (some ⟨w.heap.size, 0, none⟩) n (List.replicate n ByteArray.empty) := by
  have hr := World.rowIs_made w (.string ⟨#[]⟩) n 9
  refine ⟨by simp, .inr ⟨w.heap.size, n, _, rfl, Nat.le_refl _, hr, by omega, fun i x hx j u hu => ?_⟩⟩
  obtain ⟨h1, h2⟩ := List.getElem?_eq_some_iff.1 hx
  rw [List.getElem_replicate] at h2
  subst h2
  simp at h1
  match j, hu with
  | 0, hu => cases hu; exact ⟨by omega, rfl⟩
  | j + 1, hu => simp [strC] at hu
theorem missL10 (A : Option Addr) (n c : Nat) (L : Int) {q : Int} (hq : IntKind.i64.wrap (L - (n : Int)) = q) (w : World) (hn : n ≤ 1048576) :
    Calls Tryd.prog 50 #[.slice A n c, .int .i64 L] w fun e w' => e = .returned (.int .i64 q) ∧ w = w' := by
  have hw0 : IntKind.i64.wrap (n : Int) = (n : Int) := IntWalk.i64_in _ (by omega)
  go_enter Tryd.func50, Tryd.ntmps50
  go_wp2
  go_ret
  exact ⟨rfl, rfl⟩
/-- The page, the first lines being typed. -/
def pgL (a H : Nat) (ls : List ByteArray) (g : ByteArray → ByteArray) (k : Nat) : List ByteArray := List.replicate a ByteArray.empty ++ (ls.take k).map g ++ List.replicate (H - a - k) ByteArray.empty
theorem pgL_zero {a H : Nat} {ls : List ByteArray} {g : ByteArray → ByteArray} (h : a ≤ H) : pgL a H ls g 0 = List.replicate H ByteArray.empty := by
  rw [pgL, List.take_zero, List.map_nil, List.append_nil, List.replicate_append_replicate, Nat.sub_zero, Nat.add_sub_cancel' h]
theorem pgL_next {a H : Nat} {ls : List ByteArray} {g : ByteArray → ByteArray} {k : Nat} {x : ByteArray} (hx : ls[k]? = some x) (h : a + k < H) : (pgL a H ls g k).set (a + k) (g x) = pgL a H ls g (k + 1) := by
  have hk := (List.getElem?_eq_some_iff.1 hx).1
  obtain ⟨m, hm⟩ : ∃ m, H - a - k = m + 1 := ⟨H - a - k - 1, by omega⟩
  have hl : (List.replicate a ByteArray.empty ++ (ls.take k).map g).length = a + k := by rw [List.length_append, List.length_replicate, List.length_map, List.length_take, Nat.min_eq_left (by omega)]
  rw [pgL, hm, List.set_append_right _ _ (by omega), hl, Nat.sub_self, List.replicate_succ, List.set_cons_zero, pgL, take8 hx, List.map_append, show H - a - (k + 1) = m by omega]
  simp
theorem pgL_len {a H : Nat} {ls : List ByteArray} {g : ByteArray → ByteArray} {k : Nat} (h : a + k ≤ H) (hk : k ≤ ls.length) : (pgL a H ls g k).length = H := by
  rw [pgL, List.length_append, List.length_append, List.length_replicate, List.length_replicate, List.length_map, List.length_take, Nat.min_eq_left hk]
  omega
theorem ceR_tp {x : ByteArray} {W : Nat} (h : ceC x (W : Int) = 0) : ceR x (W : Int) = (tpE (W : Int) x, 0) := by
  obtain ⟨_, _, _, h4⟩ := ceC_ok h
  rw [ceR, if_pos h, tpE, Int.toNat_natCast, show ((W : Int) - (x.size : Int)).toNat = W - x.size by omega]
theorem ceR_bad {x : ByteArray} {W : Nat} (h : settB x = true) (h2 : inR (W : Int) 1 100 = true) (h3 : (W : Int) < (x.size : Int)) : ceR x (W : Int) = (ByteArray.empty, 5) := by
  have : ceC x (W : Int) = 5 := by rw [ceC, h, h2, if_pos rfl, if_pos rfl, if_pos h3]
  rw [ceR, this, if_neg (by decide)]
theorem ceC_good {x : ByteArray} {W : Nat} (h : settB x = true) (h2 : inR (W : Int) 1 100 = true) (h3 : ¬ (W : Int) < (x.size : Int)) : ceC x (W : Int) = 0 := by
  rw [ceC, h, h2, if_pos rfl, if_pos rfl, if_neg h3]
theorem all_no {α : Type} {p : α → Bool} {l : List α} {k : Nat} {x : α} (h : l[k]? = some x) (hp : p x = false) : l.all p = false := by
  rw [List.all_eq_false]
  exact ⟨x, List.mem_of_getElem? h, by simp [hp]⟩
set_option maxRecDepth 100000 in
set_option maxHeartbeats 4800000 in
theorem tp10_implC (A : Option Addr) (n c : Nat) (ls : List ByteArray) (wd ht : Int) (w : World) (h : Strs w A n ls) (hn : n ≤ 1048576) (hg : ∀ x ∈ ls, x.size ≤ maxLen) :
    Calls Tryd.prog 28 #[.slice A n c, .int .i64 wd, .int .i64 ht] w (TOut (tpR ls wd ht) w) := by
  have hl := Lib.hid h.1
  generalize hv : tpR ls wd ht = res
  have hres : Hid (res = if (ls.all settB && (decide ((n : Int) ≤ 30) && (inR wd 1 100 && inR ht 1 30))) = true then (if (ls.all (fitW wd) && decide ((n : Int) ≤ ht)) = true then (tpL n ls wd ht, 0) else ([], 5)) else ([], 2)) := Lib.hid (by rw [← hv, tpR, hl.out])
  obtain ⟨v, hbv⟩ : ∃ v, (decide (n ≤ 30) && ls.all settB) = v := ⟨_, rfl⟩
  have hc1 := Lib.hid (fun W hW => block10s A n c ls settB (tests_sett hg) hbv W hW hn)
  have hd30 : decide ((n : Int) ≤ 30) = decide (n ≤ 30) := decide_eq_decide.2 (by omega)
  rw [hd30] at hres
  clear hv hg hd30
  cases v with
  | false =>
    have hbad : Hid (res = ([], 2)) := Lib.hid (by
      rw [hres.out, if_neg]
      intro hh
      simp only [Bool.and_eq_true, decide_eq_true_eq] at hh
      rw [hh.1, Bool.and_true] at hbv
      exact absurd hh.2.1 (of_decide_eq_false hbv))
    clear hbv hres
    go_enter Tryd.func28, Tryd.ntmps28
    go_wp2_with fail
    refine (hc1.out _ h).mono ?_
    rintro e w1 ⟨rfl, hb1⟩
    go_wp2
    go_ret2
    exact TOut.bad hbad.out hb1
  | true =>
    simp only [Bool.and_eq_true, decide_eq_true_eq] at hbv
    obtain ⟨n30, hall⟩ := hbv
    rw [hall, decide_eq_true n30] at hres
    cases h2 : inR wd 1 100 with
    | false =>
      have hbad : Hid (res = ([], 2)) := Lib.hid (by rw [hres.out, h2]; rfl)
      have hc2 := Lib.hid (fun W => width10 wd h2 W)
      clear hres h2 hall
      go_enter Tryd.func28, Tryd.ntmps28
      go_wp2_with fail
      refine (hc1.out _ h).mono ?_
      rintro e w1 ⟨rfl, hb1⟩
      go_wp2_with fail
      refine (hc2.out _).mono ?_
      rintro e w2 ⟨rfl, rfl⟩
      go_wp2
      go_ret2
      exact TOut.bad hbad.out hb1
    | true =>
      have hc2 := Lib.hid (fun W => width10 wd h2 W)
      cases h3 : inR ht 1 30 with
      | false =>
        have hbad : Hid (res = ([], 2)) := Lib.hid (by rw [hres.out, h2, h3]; rfl)
        have hc3 := Lib.hid (fun W => in8_impl h3 W)
        clear hres h2 h3 hall
        go_enter Tryd.func28, Tryd.ntmps28
        go_wp2_with fail
        refine (hc1.out _ h).mono ?_
        rintro e w1 ⟨rfl, hb1⟩
        go_wp2_with fail
        refine (hc2.out _).mono ?_
        rintro e w2 ⟨rfl, rfl⟩
        go_wp2_with fail
        refine (hc3.out _).mono ?_
        rintro e w2 ⟨rfl, rfl⟩
        go_wp2
        go_ret2
        exact TOut.bad hbad.out hb1
      | true =>
        have hc3 := Lib.hid (fun W => in8_impl h3 W)
        obtain ⟨d1, d2⟩ := inR_iff.1 h2
        obtain ⟨d3, d4⟩ := inR_iff.1 h3
        rw [h2, h3, show (true && (true && (true && true))) = true from rfl, if_pos rfl] at hres
        obtain ⟨W, rfl⟩ : ∃ W : Nat, wd = (W : Int) := ⟨wd.toNat, by omega⟩
        obtain ⟨H, rfl⟩ : ∃ H : Nat, ht = (H : Int) := ⟨ht.toNat, by omega⟩
        by_cases h4 : H < n
        · have hbad : Hid (res = ([], 5)) := Lib.hid (by
            rw [hres.out, decide_eq_false (show ¬ (n : Int) ≤ (H : Int) by omega), Bool.and_false]; rfl)
          obtain ⟨r, hr⟩ : ∃ r, (H : Int) - (n : Int) = r := ⟨_, rfl⟩
          have hmi := Lib.hid (fun W' => missL10 A n c (H : Int) (q := r) (by rw [IntWalk.i64_in _ (by omega)]; exact hr) W' hn)
          have g1 : decide (r < 0) = true := decide_eq_true (by omega)
          replace hr := Lib.hid hr
          replace h4 := Lib.hid h4
          clear hres h2 h3 hall
          go_enter Tryd.func28, Tryd.ntmps28
          go_wp2_with fail
          refine (hc1.out _ h).mono ?_
          rintro e w1 ⟨rfl, hb1⟩
          go_wp2_with fail
          refine (hc2.out _).mono ?_
          rintro e w2 ⟨rfl, rfl⟩
          go_wp2_with fail
          refine (hc3.out _).mono ?_
          rintro e w2 ⟨rfl, rfl⟩
          go_wp2_with fail
          refine (hmi.out _).mono ?_
          rintro e w2 ⟨rfl, rfl⟩
          go_wp2
          go_ret2
          exact TOut.bad hbad.out hb1
        · obtain ⟨d, hd⟩ : ∃ d, H - n = d := ⟨_, rfl⟩
          have hmi := Lib.hid (fun W' => missL10 A n c (H : Int) (q := (d : Int)) (by rw [IntWalk.i64_in _ (by omega)]; omega) W' hn)
          have g1 : decide ((d : Int) < 0) = false := decide_eq_false (by omega)
          have hhf := Lib.hid (fun W' => half10 d (by omega) W')
          have he0 : d / 2 ≤ d := Nat.div_le_self _ _
          have htp : Hid (tpL n ls (W : Int) (H : Int) = pgL (d / 2) H ls (tpE (W : Int)) n) := Lib.hid (by
            rw [tpL, pgL, show ((H : Int) - (n : Int)).toNat = d by omega, Int.toNat_natCast, List.take_of_length_le (by rw [hl.out]; exact Nat.le_refl _)])
          obtain ⟨a, ha⟩ : ∃ a, d / 2 = a := ⟨_, rfl⟩
          rw [ha] at hhf he0 htp
          have haH : a + n ≤ H := by omega
          have hH30 : H ≤ 30 := by omega
          obtain ⟨i0, hi, hz0, hz1, hz2⟩ := info_parts Tryd.infoStr
          have hmk := fun W' => run_make_many (P := Tryd.prog) 31 9 i0 _ Tryd.underlying31 hi hz0 .i64 .i64 H (by rw [hz2]; omega) (by omega) W'
          rw [hz1, Nat.mul_one] at hmk
          have hr9 : Hid (res = if ls.all (fitW (W : Int)) = true then (pgL a H ls (tpE (W : Int)) n, 0) else ([], 5)) := Lib.hid (by
            rw [hres.out, decide_eq_true (show (n : Int) ≤ (H : Int) by omega), Bool.and_true, htp.out])
          have hst := Lib.hid (fun x (hx : x ∈ ls) => List.all_eq_true.1 hall x hx)
          have h2' := Lib.hid h2
          have hce := Lib.hid (fun x (hx : x ∈ ls) W' => centre10_impl x (W : Int) W' (by have := settB_size (List.all_eq_true.1 hall x hx); omega) (by simp [Lit.wf, IntKind.min, IntKind.max, IntKind.signed, IntKind.bits]; omega))
          replace ha := Lib.hid ha
          replace hd := Lib.hid hd
          replace h4 := Lib.hid h4
          have hmk0 := Lib.hid hmk
          clear hres h2 h3 hall htp hmk
          go_enter Tryd.func28, Tryd.ntmps28
          go_wp2_with fail
          refine (hc1.out _ h).mono ?_
          rintro e w1 ⟨rfl, hb1⟩
          go_wp2_with fail
          refine (hc2.out _).mono ?_
          rintro e w2 ⟨rfl, rfl⟩
          go_wp2_with fail
          refine (hc3.out _).mono ?_
          rintro e w2 ⟨rfl, rfl⟩
          go_wp2_with fail
          refine (hmi.out _).mono ?_
          rintro e w2 ⟨rfl, rfl⟩
          have hmk := hmk0.out w1
          have hS1 := h.below hb1
          have hb01 := Lib.hid hb1
          clear hc1 hc2 hc3 hmi hb1
          go_wp2_with fail
          have hO0 := Lib.hid (OStrs.made10 w1 H)
          have hmb := Lib.hid (below_a1 w1 (.cells (madeCells #[.string ⟨#[]⟩] H) 9))
          go_loopw [10, 11, 12, 13, 36] (fun _ _ _ _ i wr => ∃ k : Nat, k ≤ n ∧ i = .int .i64 k ∧ Below w1.heap.size w1 wr ∧ OStrs wr w1.heap.size (some ⟨w1.heap.size, 0, none⟩) H (pgL a H ls (tpE (W : Int)) k) ∧ (ls.take k).all (fitW (W : Int)) = true) (fun _ _ _ _ i _ => n - (intOf i).toNat)
          case atStart => exact ⟨0, by omega, rfl, by simpa using hmb.out, by rw [pgL_zero (by omega)]; simpa using hO0.out, rfl⟩
          case round =>
            rename World => wr
            obtain ⟨k, hk, rfl, hbw, hO, hfit⟩ := hrel
            have hwz := hbw.size
            by_cases hlt : k < n
            · obtain ⟨bb, off, x, rfl, hb, hx, d0⟩ := str_at (hS1.below hbw) hlt
              have hxm := List.mem_of_getElem? hx.out
              have hk0 : (0 : Int) ≤ (k : Int) := Int.natCast_nonneg _
              have hk1 : (k : Int) < (n : Int) := by omega
              have hcx := Lib.hid (hce.out x hxm)
              by_cases h5 : (W : Int) < (x.size : Int)
              · have hrx := ceR_bad (hst.out x hxm) h2'.out h5
                rw [hrx] at hcx
                have hbad : Hid (res = ([], 5)) := Lib.hid (by rw [hr9.out, all_no hx.out (by rw [fitW, decide_eq_false (by omega)])]; rfl)
                have hbe := Lib.hid (hb01.out.step hbw)
                replace h5 := Lib.hid h5
                clear hO hrx hfit
                go_wp2_with fail
                refine (hcx.out _).mono ?_
                rintro e w3 ⟨rfl, hb3⟩
                have hbf := Lib.hid (hbe.out.step hb3)
                clear hb3
                go_wp2
                go_ret2
                exact TOut.bad hbad.out hbf.out
              · have hrx := ceR_tp (ceC_good (hst.out x hxm) h2'.out h5)
                rw [hrx] at hcx
                have hnx := Lib.hid (pgL_next (g := tpE (W : Int)) hx.out (show a + k < H by omega))
                have hfit2 : Hid ((ls.take (k + 1)).all (fitW (W : Int)) = true) := Lib.hid (by rw [take8 hx.out, List.all_append, hfit]; simp [fitW]; omega)
                have hwa : IntKind.i64.wrap ((a : Int) + (k : Int)) = ((a + k : Nat) : Int) := by rw [IntWalk.i64_in _ (by omega)]; omega
                obtain ⟨j, hj⟩ : ∃ j, a + k = j := ⟨_, rfl⟩
                rw [hj] at hwa hnx
                have hjH : j < H := by omega
                have hj0 : (0 : Int) ≤ (j : Int) := Int.natCast_nonneg _
                have hj1 : (j : Int) < (H : Int) := by omega
                generalize tpE (W : Int) x = E at *
                replace h5 := Lib.hid h5
                replace hj := Lib.hid hj
                have hO1 := Lib.hid hO
                clear hO hrx hfit
                go_wp2_with fail
                refine (hcx.out _).mono ?_
                rintro e w3 ⟨rfl, hb3⟩
                have hO3 := hO1.out.below hb3
                obtain ⟨y, c3, f3, l3, _⟩ := OStrs.parts10 hO3 hjH
                have hO4 := Lib.hid (OStrs.put10 E hO3 hjH)
                have hbf := Lib.hid ((below_step10 hbw hb3 hwz).setCell (p := ⟨w1.heap.size, j, none⟩) (Nat.le_refl _) (.string E))
                clear hb3 hO1 hO3
                go_wp2_with fail
                refine (hhf.out _).mono ?_
                rintro e w4 ⟨rfl, rfl⟩
                go_wp2
                go_roundw
                case rel => exact ⟨k + 1, by omega, by go_num, hbf.out, by rw [← hnx.out]; exact hO4.out, hfit2.out⟩
                case measure => simp [intOf]; omega
            · obtain rfl : k = n := by omega
              have gk : ¬ (k : Int) < (k : Int) := by omega
              rw [List.take_of_length_le (by rw [hl.out]; exact Nat.le_refl _)] at hfit
              have hgood : Hid (res = (pgL a H ls (tpE (W : Int)) k, 0)) := Lib.hid (by rw [hr9.out, if_pos hfit])
              have hOf := Lib.hid (ORow.mono hO hb01.out.size)
              have hbe := Lib.hid (hb01.out.step hbw)
              clear hO hfit
              go_wp2
              go_ret2
              exact ⟨some ⟨w1.heap.size, 0, none⟩, H, H, by rw [hgood.out]; rfl, by omega, by rw [hgood.out]; exact hOf.out, hbe.out⟩
theorem tp10_impl (A : Option Addr) (n m : Nat) (ls : List ByteArray) (wd ht : Int) (w : World) (h : Strs w A n ls) (hn : n ≤ 1048576) (hg : ∀ x ∈ ls, x.size ≤ maxLen) (hw : (Lit.int .i64 wd).wf = true) (hh : (Lit.int .i64 ht).wf = true) :
    Calls Tryd.prog 28 #[.slice A n n, .int .i64 wd, .int .i64 ht] w (TOut (tpR ls wd ht) w) := tp10_implC A n n ls wd ht w h hn hg
theorem tp10_spec (A : Option Addr) (n m : Nat) (ls : List ByteArray) (wd ht : Int) (w : World) (h : Strs w A n ls) (hn : n ≤ 1048576) (hg : ∀ x ∈ ls, x.size ≤ maxLen) (hw : (Lit.int .i64 wd).wf = true) (hh : (Lit.int .i64 ht).wf = true) :
    Calls Tryd.prog 26 #[.slice A n n, .int .i64 wd, .int .i64 ht] w (TOut (tpR ls wd ht) w) := tp10_specC A n n ls wd ht w h hn hg
end Go.Proofs.YtalmpiffjghhkaaDoor
