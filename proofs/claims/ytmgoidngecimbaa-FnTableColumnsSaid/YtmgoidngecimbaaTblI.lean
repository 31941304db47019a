/- Tables: the program's functions: whether rows are one, and the widths of its columns. -/
import Derived.Test.YtmgoidngecimbaaTbl0
import Derived.Test.YtmgoidngecimbaaSssO
namespace Go.Proofs.Ytmgoidngecimbaa
open Go.RowKit Go.ChangeShapes Go.WideShapes Go.Deep
set_option linter.unusedVariables false
set_option linter.unusedSimpArgs false

theorem noCell8 (s : ByteArray) (hs : s.size ≤ maxLen) {v : Bool} (hv : cellB s = v) (w : World) : Calls Try.prog 67 #[.string s] w fun e w' => e = .returned (.bool (!v)) ∧ w = w' := by
  have hc := Lib.hid (fun W => hasBytes_any s 32 126 30 v hv W hs)
  clear hv hs
  go_enter Try.func67, Try.ntmps67
  go_wp2_with fail
  refine (hc.out _).mono ?_
  rintro e w1 ⟨rfl, rfl⟩
  go_wp2
  go_ret
  exact ⟨rfl, rfl⟩
theorem idx_noCell8 (A : Option Addr) (n c : Nat) (ps : List ByteArray) {v : Bool} (hv : ps.all cellB = v) (w : World) (h : Strs w A n ps) (hn : n ≤ maxLen) (hg : ∀ s ∈ ps, s.size ≤ maxLen) :
    Calls Try.prog 83 #[.slice A n c, .func (.func 67) #[] #[]] w fun e w' => (∃ i : Int, e = .returned (.int .i64 i) ∧ decide (0 ≤ i) = !v) ∧ w = w' := by
  unfold maxLen at hn
  have hv0 := Lib.hid hv
  have hl := Lib.hid h.1
  have hg0 := Lib.hid hg
  clear hv hg
  go_enter Try.func83, Try.ntmps83
  go_wp2
  go_loopw [8] (fun i wr => ∃ k : Nat, k ≤ n ∧ i = .int .i64 k ∧ w = wr ∧ ps.all cellB = (ps.drop k).all cellB) (fun i _ => n - (intOf i).toNat)
  case atStart => exact ⟨0, by omega, rfl, rfl, rfl⟩
  case round =>
    obtain ⟨k, hk, rfl, rfl, he⟩ := hrel
    replace he := Lib.hid he
    by_cases hlt : k < n
    · obtain ⟨b, off, x, rfl, hb, hx, c0⟩ := str_at h hlt
      have hst := Lib.hid (all8_drop (p := cellB) hx.out)
      have hxs := hg0.out x (List.mem_of_getElem? hx.out)
      have hk0 : (0 : Int) ≤ (k : Int) := Int.natCast_nonneg _
      have hk1 : (k : Int) < (n : Int) := by omega
      cases h1 : cellB x with
      | false =>
        have hr : Hid (v = false) := Lib.hid (by rw [← hv0.out, he.out, hst.out]; simp only [h1]; rfl)
        have hj := Lib.hid (fun W => noCell8 x hxs h1 W)
        clear h1
        go_wp2_with fail
        refine (hj.out _).mono ?_
        rintro e w1 ⟨rfl, rfl⟩
        go_wp2
        go_ret
        exact ⟨⟨_, rfl, by rw [hr.out]; simp⟩, rfl⟩
      | true =>
        have hnx : Hid (ps.all cellB = (ps.drop (k + 1)).all cellB) := Lib.hid (by rw [he.out, hst.out]; simp only [h1]; rfl)
        have hj := Lib.hid (fun W => noCell8 x hxs h1 W)
        clear h1
        go_wp2_with fail
        refine (hj.out _).mono ?_
        rintro e w1 ⟨rfl, rfl⟩
        go_wp2
        go_roundw
        case rel => exact ⟨k + 1, by omega, by go_num, by trivial, hnx.out⟩
        case measure => simp [intOf]; omega
    · obtain rfl : k = n := by omega
      have hr : Hid (v = true) := Lib.hid (by rw [← hv0.out, he.out, all8_end (by rw [hl.out]; omega)])
      go_wp2
      go_ret
      exact ⟨⟨_, rfl, by rw [hr.out]; rfl⟩, rfl⟩
theorem has_noCell8 (A : Option Addr) (n c : Nat) (ps : List ByteArray) {v : Bool} (hv : ps.all cellB = v) (w : World) (h : Strs w A n ps) (hn : n ≤ maxLen) (hg : ∀ s ∈ ps, s.size ≤ maxLen) :
    Calls Try.prog 66 #[.slice A n c, .func (.func 67) #[] #[]] w fun e w' => e = .returned (.bool (!v)) ∧ w = w' := by
  have hi := Lib.hid (idx_noCell8 A n c ps hv w h hn hg)
  clear hv h hn hg
  go_enter Try.func66, Try.ntmps66
  go_wp2_with fail
  refine (hi.out).mono ?_
  rintro e w1 ⟨⟨i, rfl, hd⟩, rfl⟩
  replace hd := Lib.hid hd
  go_wp2
  go_ret
  exact ⟨ret_bo hd.out, rfl⟩
theorem rowB_of {m : Nat} {r : List ByteArray} : rowB m r = (decide (r.length = m) && r.all cellB) := rfl
set_option maxRecDepth 100000 in
set_option maxHeartbeats 3200000 in
theorem table8_impl (A : Option Addr) (n c : Nat) (rows : List (List ByteArray)) {v : Bool} (hv : tableB rows = v) (w : World) (h : StrSS w A n rows) (hn : n ≤ 1048576) (hg : ∀ r ∈ rows, ∀ s ∈ r, s.size ≤ maxLen) :
    Calls Try.prog 39 #[.slice A n c] w fun e w' => e = .returned (.bool v) ∧ w = w' := by
  have hl := Lib.hid h.len
  have hres : Hid (v = (inR (n : Int) 1 40 && (inR (colsN rows : Int) 1 12 && rows.all (rowB (colsN rows))))) := Lib.hid (by rw [← hv, table_impl, hl.out])
  have hg0 := Lib.hid hg
  have hcol := Lib.hid (fun r (hr : rows[0]? = some r) => colsN_at hr)
  clear hv hg
  cases h1 : inR (n : Int) 1 40 with
  | false =>
    have hr : Hid (v = false) := Lib.hid (by rw [hres.out, h1]; rfl)
    have hc := Lib.hid (fun W => in8_impl h1 W)
    clear h1 h
    go_enter Try.func39, Try.ntmps39
    go_wp2_with fail
    refine (hc.out _).mono ?_
    rintro e w1 ⟨rfl, rfl⟩
    go_wp2
    go_ret
    exact ⟨ret_bo hr.out.symm, rfl⟩
  | true =>
    have hc := Lib.hid (fun W => in8_impl h1 W)
    obtain ⟨n1, n40⟩ := inR_iff.1 h1
    obtain ⟨b', off', B0, m0, cc0, r0, rfl, hb', hx0, d0, hI0, hm0⟩ := sss_at (k := 0) h (by omega)
    rw [Nat.add_zero] at d0
    unfold maxLen at hm0
    have hcr := hcol.out r0 hx0.out
    rw [hI0.1] at hcr
    have hn1 : (0 : Int) < (n : Int) := by omega
    cases h2 : inR (m0 : Int) 1 12 with
    | false =>
      have hr : Hid (v = false) := Lib.hid (by rw [hres.out, h1, hcr, h2]; rfl)
      have hc2 := Lib.hid (fun W => in8_impl h2 W)
      clear h1 h2 h
      go_enter Try.func39, Try.ntmps39
      go_wp2_with fail
      refine (hc.out _).mono ?_
      rintro e w1 ⟨rfl, rfl⟩
      go_wp2_with fail
      refine (hc2.out _).mono ?_
      rintro e w1 ⟨rfl, rfl⟩
      go_wp2
      go_ret
      exact ⟨ret_bo hr.out.symm, rfl⟩
    | true =>
      have hc2 := Lib.hid (fun W => in8_impl h2 W)
      have hres2 : Hid (v = rows.all (rowB m0)) := Lib.hid (by rw [hres.out, h1, hcr, h2]; rfl)
      clear h1 h2
      go_enter Try.func39, Try.ntmps39
      go_wp2_with fail
      refine (hc.out _).mono ?_
      rintro e w1 ⟨rfl, rfl⟩
      go_wp2_with fail
      refine (hc2.out _).mono ?_
      rintro e w1 ⟨rfl, rfl⟩
      clear hc hc2
      go_wp2
      go_loopw [19] (fun i wr => ∃ k : Nat, k ≤ n ∧ i = .int .i64 k ∧ w = wr ∧ rows.all (rowB m0) = (rows.drop k).all (rowB m0)) (fun i _ => n - (intOf i).toNat)
      case atStart => exact ⟨0, by omega, rfl, rfl, rfl⟩
      case round =>
        obtain ⟨k, hk, rfl, rfl, he⟩ := hrel
        replace he := Lib.hid he
        by_cases hlt : k < n
        · obtain ⟨b, off, B, m, cc, r, hA, hb, hx, c0, hI, hm⟩ := sss_at h hlt
          cases hA
          have hst := Lib.hid (all8_drop (p := rowB m0) hx.out)
          have hrb : rowB m0 r = (decide (m = m0) && r.all cellB) := by rw [rowB_of, hI.1]
          have hgr := hg0.out r (List.mem_of_getElem? hx.out)
          have hk0 : (0 : Int) ≤ (k : Int) := Int.natCast_nonneg _
          have hk1 : (k : Int) < (n : Int) := by omega
          by_cases hmm : m = m0
          · subst hmm
            cases h3 : r.all cellB with
            | false =>
              have hr : Hid (v = false) := Lib.hid (by rw [hres2.out, he.out, hst.out, hrb, h3]; simp)
              have hj := Lib.hid (fun W (hW : Strs W B m r) => has_noCell8 B m cc r h3 W hW hm hgr)
              clear h3 hrb
              go_wp2_with fail
              refine (hj.out _ hI).mono ?_
              rintro e w1 ⟨rfl, rfl⟩
              go_wp2
              go_ret
              exact ⟨ret_bo hr.out.symm, rfl⟩
            | true =>
              have hnx : Hid (rows.all (rowB m) = (rows.drop (k + 1)).all (rowB m)) := Lib.hid (by rw [he.out, hst.out, hrb, h3]; simp)
              have hj := Lib.hid (fun W (hW : Strs W B m r) => has_noCell8 B m cc r h3 W hW hm hgr)
              clear h3 hrb
              go_wp2_with fail
              refine (hj.out _ hI).mono ?_
              rintro e w1 ⟨rfl, rfl⟩
              go_wp2
              go_roundw
              case rel => exact ⟨k + 1, by omega, by go_num, by trivial, hnx.out⟩
              case measure => simp [intOf]; omega
          · have hr : Hid (v = false) := Lib.hid (by rw [hres2.out, he.out, hst.out, hrb, decide_eq_false hmm]; simp)
            unfold maxLen at hm
            have g0 : ((m : Int) == (m0 : Int)) = false := beq_eq_false_iff_ne.2 (by omega)
            have g0' : (m == m0) = false := beq_eq_false_iff_ne.2 hmm
            have g2 : ((m : Int) != (m0 : Int)) = true := by rw [bne, g0]; rfl
            have g2' : (m != m0) = true := by rw [bne, g0']; rfl
            have hn2 : 0 < n := by omega
            clear hrb hmm
            go_wp2
            go_ret
            exact ⟨ret_bo hr.out.symm, rfl⟩
        · obtain rfl : k = n := by omega
          have hr : Hid (v = true) := Lib.hid (by rw [hres2.out, he.out, all8_end (by rw [hl.out]; omega)])
          go_wp2
          go_ret
          exact ⟨ret_bo hr.out.symm, rfl⟩
theorem clo8 (B : Option Addr) (m cc : Nat) (r : List ByteArray) (i b : Nat) (w : World) (h : Strs w B m r) (hi : i < m) (hm : m ≤ 12) (hs : ∀ s ∈ r, s.size ≤ 30) (hc : w.cell? ⟨b, 0, none⟩ = some (.int .i64 (i : Int))) {z : Int} (hz : szI r i = z) :
    Calls Try.prog 40 #[.slice B m cc, .pointer (some ⟨b, 0, none⟩)] w fun e w' => e = .returned (.int .i64 z) ∧ w = w' := by
  obtain ⟨bs, off, x, rfl, hb, hx, c0⟩ := str_at h hi
  have hxs := hs x (List.mem_of_getElem? hx.out)
  have hzx : Hid (z = (x.size : Int)) := Lib.hid (by rw [← hz, szI, List.getD, hx.out]; rfl)
  have hi0 : (0 : Int) ≤ (i : Int) := Int.natCast_nonneg _
  have hi1 : (i : Int) < (m : Int) := by omega
  clear hz
  go_enter Try.func40, Try.ntmps40
  go_wp2
  go_ret
  exact ⟨by rw [hzx.out]; rfl, rfl⟩
set_option maxHeartbeats 1600000 in
theorem great8 (A : Option Addr) (n c m : Nat) (rows : List (List ByteArray)) (i b : Nat) (w : World) (h : StrSS w A n rows) (hn : n ≤ 40) (hi : i < m) (hm : m ≤ 12) (hr : ∀ r ∈ rows, r.length = m ∧ ∀ s ∈ r, s.size ≤ 30) (hc : w.cell? ⟨b, 0, none⟩ = some (.int .i64 (i : Int))) {z : Int} (hz : grL rows i 0 = z) :
    Calls Try.prog 41 #[.slice A n c, .func (.func 40) #[] #[.pointer (some ⟨b, 0, none⟩)]] w fun e w' => e = .returned (.int .i64 z) ∧ w = w' := by
  have hz0 := Lib.hid hz
  have hl := Lib.hid h.len
  have hr0 := Lib.hid hr
  have hc0 := Lib.hid hc
  clear hz hr hc
  go_enter Try.func41, Try.ntmps41
  go_wp2
  go_loopw [5, 10] (fun a q wr => ∃ k : Nat, k ≤ n ∧ q = .int .i64 k ∧ a = .int .i64 (grL (rows.take k) i 0) ∧ w = wr) (fun _ q _ => n - (intOf q).toNat)
  case atStart => exact ⟨0, by omega, rfl, rfl, rfl⟩
  case round =>
    obtain ⟨k, hk, rfl, rfl, rfl⟩ := hrel
    by_cases hlt : k < n
    · obtain ⟨bb, off, B, m1, cc, r, rfl, hb, hx, d0, hI, hm1⟩ := sss_at h hlt
      obtain ⟨hrl, hrs⟩ := hr0.out r (List.mem_of_getElem? hx.out)
      rw [hI.1] at hrl
      subst hrl
      have hnx := Lib.hid (grL_snoc hx.out (i := i) 0)
      obtain ⟨y, hy⟩ : ∃ y, szI r i = y := ⟨_, rfl⟩
      rw [hy] at hnx
      have hcl := Lib.hid (clo8 B m1 cc r i b w hI hi hm hrs hc0.out hy)
      have hk0 : (0 : Int) ≤ (k : Int) := Int.natCast_nonneg _
      have hk1 : (k : Int) < (n : Int) := by omega
      clear hy hrs
      generalize grL (rows.take k) i 0 = a at *
      go_wp2_with fail
      refine hcl.out.mono ?_
      rintro e w1 ⟨rfl, rfl⟩
      by_cases hay : a < y
      · have hmx : max a y = y := by omega
        go_wp2
        go_roundw
        case rel => exact ⟨k + 1, by omega, by go_num, by rw [hnx.out]; first | rfl | rw [hmx], by trivial⟩
        case measure => simp [intOf]; omega
      · have hmx : max a y = a := by omega
        go_wp2
        go_roundw
        case rel => exact ⟨k + 1, by omega, by go_num, by rw [hnx.out]; first | rfl | rw [hmx], by trivial⟩
        case measure => simp [intOf]; omega
    · obtain rfl : k = n := by omega
      have hfin : Hid (grL (rows.take k) i 0 = z) := Lib.hid (by rw [List.take_of_length_le (by rw [hl.out]; omega)]; exact hz0.out)
      go_wp2
      go_ret
      exact ⟨ret_i64 hfin.out, rfl⟩
set_option maxRecDepth 100000 in
set_option maxHeartbeats 3200000 in
theorem cwR_impl (A : Option Addr) (n c : Nat) (rows : List (List ByteArray)) (w : World) (h : StrSS w A n rows) (hn : n ≤ 1048576) (hg : ∀ r ∈ rows, sssGood r) :
    Calls Try.prog 8 #[.slice A n c] w (IOut (colR rows) w) := by
  generalize hr : colR rows = r
  replace hr := Lib.hid hr.symm
  cases h1 : tableB rows with
  | false =>
    have hbad : Hid (r = ([], 1)) := Lib.hid (by rw [hr.out]; simp [colR, h1])
    have hc1 := Lib.hid (table8_impl A n c rows h1 w h hn hg)
    clear h1 hr h hg
    go_enter Try.func8, Try.ntmps8
    go_wp2_with fail
    refine hc1.out.mono ?_
    rintro e w1 ⟨rfl, rfl⟩
    go_wp2
    go_ret2
    exact IOut.bad hbad.out (Below.refl _ _)
  | true =>
    obtain ⟨n1, n40, m1, m12, hrows⟩ := tableB_ok h1
    have hgood : Hid (r = ((List.range (colsN rows)).map (fun i => grL rows i 0), 0)) := Lib.hid (by rw [hr.out, colR, if_pos h1, widL_eq (fun x hx => (hrows x hx).1)])
    have hcode : Hid (r.2 = 0) := Lib.hid (by rw [hgood.out])
    have hc1 := Lib.hid (table8_impl A n c rows h1 w h hn hg)
    have hl := Lib.hid h.len
    rw [hl.out] at n1 n40
    obtain ⟨b', off', B0, mm, cc0, r0, rfl, hb', hx0, d0, hI0, hmm0⟩ := sss_at (k := 0) h (by omega)
    rw [Nat.add_zero] at d0
    have hcr := colsN_at hx0.out
    rw [hI0.1] at hcr
    rw [hcr] at hgood hrows m1 m12
    have hr0 := Lib.hid hrows
    have hn1 : (0 : Int) < (n : Int) := by omega
    have hn2 : 0 < n := by omega
    obtain ⟨i0, hi, hz0, hz1, hz2⟩ := info_parts Try.infoI64
    clear h1 hr hg hrows hcr
    go_enter Try.func8, Try.ntmps8
    go_wp2_with fail
    refine hc1.out.mono ?_
    rintro e w1 ⟨rfl, rfl⟩
    clear hc1
    go_wp2
    go_loopw [4, 14] (fun v i wr => ∃ k : Nat, k ≤ mm ∧ i = .int .i64 k ∧ Below w.heap.size w wr ∧ wr.ownsRow w.heap.size 2 1 v k (((List.range k).map fun i => grL rows i 0).flatMap intC)) (fun _ i _ => mm - (intOf i).toNat)
    case atStart => exact ⟨0, by omega, rfl, Below.refl _ _, owns_nil8 w _ _⟩
    case round =>
      rename World => wr
      obtain ⟨k, hk, rfl, hbw, hrow⟩ := hrel
      by_cases hlt : k < mm
      · obtain ⟨y, hy⟩ : ∃ y, grL rows k 0 = y := ⟨_, rfl⟩
        have hsn : Hid (((List.range (k + 1)).map fun i => grL rows i 0).flatMap intC = ((List.range k).map fun i => grL rows i 0).flatMap intC ++ [.int .i64 y]) := Lib.hid (by rw [List.range_succ, List.map_append, List.flatMap_append, ← hy]; rfl)
        have hrl := Lib.hid hrow
        clear hrow
        have hbx := Lib.hid (below_a1 wr (.cells #[.int .i64 (k : Int)] 3))
        have hbw2 := hbw.step hbx.out
        have hgr := Lib.hid (great8 (some ⟨b', off', none⟩) n c mm rows k wr.heap.size (wr.alloc (.cells #[.int .i64 (k : Int)] 3)) (h.below hbw2) n40 hlt m12 hr0.out (cell_new rfl rfl) hy)
        have hrl2 := Lib.hid (hrl.out.alloc (.cells #[.int .i64 (k : Int)] 3))
        have hwz := hbw2.size
        clear hy
        go_wp2_with fail
        generalize hwx : wr.alloc (.cells #[.int .i64 (k : Int)] 3) = wx at *
        clear hwx hbx hrl
        refine hgr.out.mono ?_
        rintro e w1 ⟨rfl, rfl⟩
        go_wp2_with (at_builtin; refine wpList_append_own _ rfl _ _ 30 rfl w.heap.size 2 i0 _ 1 8 Try.underlying30 hi hz0 hz1 hz2 rfl (by decide) _ _ _ rfl (hrl2.out.alloc _) ⟨wx.heap.size, 0, none⟩ 1 1 [.int .i64 y] rfl rfl (news8 _ _ _) (one8 _) (by unfold maxLen; omega) (by omega) (by simp; omega) ?_)
        intro vqq wqq hownqq hgrqq hnilqq
        have hgqqq := grown_trans (grown_below (below_a1 wx _) _) hgrqq
        clear hgrqq hnilqq
        have hq : Hid (wqq.ownsRow w.heap.size 2 1 vqq (k + 1) (((List.range (k + 1)).map fun i => grL rows i 0).flatMap intC) ∧ Below w.heap.size w wqq) := Lib.hid ⟨by rw [hsn.out]; exact hownqq, hbw2.grown hgqqq hwz (fun j hj => owns_ge8 hrl2.out hj)⟩
        clear hownqq hgqqq
        clear hrl2
        go_wp2
        go_roundw
        case rel => exact ⟨k + 1, by omega, by go_num, hq.out.2, hq.out.1⟩
        case measure => simp [intOf]; omega
      · obtain rfl : k = mm := by omega
        obtain ⟨A', c', rfl, hO⟩ := owns_i8 (by simp) hrow
        have hO2 := Lib.hid hO
        clear hO hrow
        go_wp2
        go_ret2
        exact ⟨A', k, c', by rw [hcode.out]; rfl, by omega, by rw [hgood.out]; exact hO2.out, hbw⟩
end Go.Proofs.Ytmgoidngecimbaa
