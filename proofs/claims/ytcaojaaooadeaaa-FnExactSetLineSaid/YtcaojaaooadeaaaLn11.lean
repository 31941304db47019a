/- Justified lines: the program's function. -/
import Derived.Test.YtcaojaaooadeaaaLn9
import Derived.Test.YtcaojaaooadeaaaAlI
import Derived.ArgAppend
namespace Go.Proofs.Ytcaojaaooadeaaa
open Go.RowKit Go.ChangeShapes Go.WideShapes Go.Deep
set_option linter.unusedVariables false
set_option linter.unusedSimpArgs false

theorem joinE_len : ∀ (ws : List ByteArray), (Lib.join (ws.map (·.data.toList)) []).length = sizN ws
  | [] => rfl
  | [x] => by
    have : x.data.toList.length = x.size := rfl
    simp only [Lib.join, List.intercalate, List.map_cons, List.map_nil, List.intersperse_singleton, List.flatten_cons, List.flatten_nil, List.append_nil, this, sizN, Nat.add_zero]
  | x :: y :: r => by
    have ih := joinE_len (y :: r)
    simp only [Lib.join, List.intercalate, List.map_cons] at ih ⊢
    rw [List.intersperse_cons_cons, List.flatten_cons, List.flatten_cons, List.length_append, List.length_append, ih]
    have : x.data.toList.length = x.size := rfl
    simp only [this, sizN, List.length_nil]
    omega
def part0 (room g : Nat) (ws : List ByteArray) (k : Nat) : List UInt8 := if k = 0 then [] else partT room g ws k
theorem part0_one {room g : Nat} {ws : List ByteArray} {x : ByteArray} (h : ws[0]? = some x) : part0 room g ws 1 = [] ++ x.data.toList := by rw [part0, if_neg (by omega), part_one h]; rfl
theorem part0_next {room g : Nat} {ws : List ByteArray} {k : Nat} {x : ByteArray} (h : ws[k]? = some x) (hk : 1 ≤ k) : part0 room g ws (k + 1) = part0 room g ws k ++ (blanksB (gp9 room g k)).data.toList ++ x.data.toList := by
  rw [part0, if_neg (by omega), part0, if_neg (by omega), part_next h hk, List.append_assoc]
  simp [blanksB]
theorem part0_len {room g : Nat} {ws : List ByteArray} (hr : room ≤ 1000) (hs : ∀ x ∈ ws, x.size ≤ 1000) (k : Nat) (hk : k ≤ ws.length) : (part0 room g ws k).length ≤ 3000 * (k + 1) := by
  unfold part0
  split
  · simp
  · exact part_len hr hs k hk
theorem setB_single {W : Nat} {x : ByteArray} : setB W [x] = ⟨(part0 (W - x.size) 1 [x, ⟨#[]⟩] 2).toArray⟩ := by
  refine bytes_eq9 ?_
  have h1 : gp9 (W - x.size) 1 1 = W - x.size := by simp [gp9, Nat.mod_one]
  simp [setB, setL, headT, longN, sizN, part0, partT, restT, h1]
  try rfl

set_option maxRecDepth 100000 in
set_option maxHeartbeats 6400000 in
theorem just9_impl (b off n c : Nat) (ws : List ByteArray) (W : Nat) (hW : W ≤ 900) (hn0 : 0 < n) (hn : n ≤ 1000) (hc : n ≤ c) (hs : ∀ x ∈ ws, x.size ≤ 1000) (hfit : longN ws ≤ W) (w : World) (h : Strs w (some ⟨b, off, none⟩) n ws) :
    Calls Try.prog 53 #[.slice (some ⟨b, off, none⟩) n c, .int .i64 (W : Int)] w fun e w' => e = .returned (.string (setB W ws)) ∧ Below w.heap.size w w' := by
  have hl := Lib.hid h.1
  obtain ⟨hb, hcells⟩ := strs_cells h hn0
  have hln : longN ws = sizN ws + (n - 1) := by rw [longN, hl.out]
  obtain ⟨i0, hi, hz0, hz1, hz2⟩ := info_parts Try.infoStr
  by_cases h1 : n = 1
  · subst h1
    obtain ⟨x, rfl⟩ : ∃ x, ws = [x] := List.length_eq_one_iff.1 hl.out
    obtain ⟨g, hg⟩ : ∃ g : Nat, 1 = g := ⟨_, rfl⟩
    obtain ⟨room, hrv⟩ : ∃ room : Nat, W - x.size = room := ⟨_, rfl⟩
    have hres : Hid (setB W [x] = ⟨(part0 room g [x, ⟨#[]⟩] (g + 1)).toArray⟩) := Lib.hid (by rw [← hg, ← hrv]; exact setB_single)
    have hxs := hs x (by simp)
    have c0 := hcells 0 x rfl
    rw [Nat.add_zero] at c0
    have hsz : sizN [x, ⟨#[]⟩] = x.size := rfl
    have hs1 : ∀ y ∈ [x, (⟨#[]⟩ : ByteArray)], y.size ≤ 1000 := fun y hy => by
      simp only [List.mem_cons, List.not_mem_nil, or_false] at hy
      rcases hy with rfl | rfl
      · exact hxs
      · decide
    have hfit1 : sizN [x, ⟨#[]⟩] ≤ W := by rw [hsz]; simp [longN, sizN] at hfit; exact hfit
    have hroom : W - sizN [x, ⟨#[]⟩] = room := by rw [hsz]; exact hrv
    have hrm : room ≤ 900 := by omega
    have hg0 : 0 < g := by omega
    have hg1000 : g ≤ 999 := by omega
    generalize hws1 : [x, (⟨#[]⟩ : ByteArray)] = ws1 at *
    have hl1 : Hid (ws1.length = g + 1) := Lib.hid (by rw [← hws1, ← hg]; rfl)
    have hcl : Hid ([Value.string x, Value.string ⟨#[]⟩] = ws1.flatMap strC) := Lib.hid (by rw [← hws1]; rfl)
    have hg2 : Hid (1 + 1 = g + 1) := Lib.hid (by omega)
    clear hws1 hsz hs hln hcells hg hrv
    go_enter Try.func53, Try.ntmps53
    go_wp2_with (at_builtin; refine wpList_append_grows _ rfl _ _ 22 rfl 9 i0 _ 1 16 Try.underlying22 hi hz0 hz1 hz2 rfl (by decide) (some ⟨b, off, none⟩) 1 1 [.string x] rfl (fun h => by cases h) rfl (fun b' hb' j u hu => by
      cases hb'
      match j, hu with
      | 0, hu => cases hu; simpa [Addr.add] using cell_on c0 _
      | j + 1, hu => simp at hu) ⟨w.heap.size, 0, none⟩ 1 1 [.string ⟨#[]⟩] rfl rfl (news8 _ _ _) (one8s _) (by omega) (by unfold maxLen; omega) (by omega) ?_)
    intro v' w0 hown hgr
    replace hown : w0.ownsRow (w.heap.size + 1) 9 1 v' ws1.length (ws1.flatMap strC) := by
      rw [← hcl.out, hl1.out, ← hg2.out]
      exact hown
    obtain ⟨A1, c1, rfl, hO⟩ := owns_s8 rfl hown
    have hcap1 : ws1.length ≤ c1 := cap8 hown
    rw [hl1.out] at hO hcap1
    have hbw0 : Below w.heap.size w w0 := (below_a1 w _).grown hgr (by simp) (fun j hj => by cases hj)
    have hS0 := hO.srow
    obtain ⟨b1, o1, rfl, _⟩ := hS0.2 (by omega)
    rw [hl1.out]
    clear hown hgr hO c0 hfit hb
    have hjl : (Lib.join (ws1.map (·.data.toList)) (⟨#[]⟩ : ByteArray).data.toList).length ≤ 140737488355328 := by
      show (Lib.join (ws1.map (·.data.toList)) []).length ≤ _
      rw [joinE_len]
      omega
    obtain ⟨hb1, hcells1⟩ := strs_cells hS0 (by omega)
    have hJ := Lib.hid (Try.strings_Join b1 o1 c1 ws1 ⟨#[]⟩ w0 hcells1 hb1 (by rw [hl1.out]; omega) (by rw [hl1.out]; exact hcap1) hjl)
    rw [hl1.out] at hJ
    have hjs : (⟨(Lib.join (ws1.map (·.data.toList)) (⟨#[]⟩ : ByteArray).data.toList).toArray⟩ : ByteArray).size = sizN ws1 := by
      rw [← joinE_len ws1]
      simp [ByteArray.size]
    generalize (⟨(Lib.join (ws1.map (·.data.toList)) (⟨#[]⟩ : ByteArray).data.toList).toArray⟩ : ByteArray) = JB at *
    have hw1 : IntKind.i64.wrap ((W : Int) - (JB.size : Int)) = ((room : Nat) : Int) := by rw [IntWalk.i64_in _ (by omega)]; omega
    have hpl := Lib.hid (fun k hk => part0_len (room := room) (g := g) (by omega) hs1 k hk)
    have hql : (room) / g ≤ room := Nat.div_le_self _ _
    have hrl0 : (room) % g < g := Nat.mod_lt _ (by omega)
    have hq1' := quo9 (room) g
    have hq3' := rem9 (room) g
    obtain ⟨q, hqq⟩ : ∃ q, (room) / g = q := ⟨_, rfl⟩
    obtain ⟨r, hrr⟩ : ∃ r, (room) % g = r := ⟨_, rfl⟩
    have hqr : Hid (∀ i, gp9 (room) g i = q + (if i ≤ r then 1 else 0)) := Lib.hid (fun i => by rw [gp9, hqq, hrr])
    rw [hqq] at hql hq1'
    rw [hrr] at hrl0 hq3'
    have hwq : IntKind.i64.wrap (q : Int) = (q : Int) := IntWalk.i64_in _ (by omega)
    have hq4 : IntKind.i64.wrap ((q : Int) + 1) = ((q + 1 : Nat) : Int) := by rw [IntWalk.i64_in _ (by omega)]; omega
    have hwg : IntKind.i64.wrap (((g + 1 : Nat) : Int) - 1) = (g : Int) := by rw [IntWalk.i64_in _ (by omega)]; omega
    have hwg2 : IntKind.i64.wrap ((g : Int) + 1 - 1) = (g : Int) := by rw [IntWalk.i64_in _ (by omega)]; omega
    have hgz1 : ((g : Int) == 0) = false := beq_eq_false_iff_ne.2 (by omega)
    have hgz2 : ¬ ((g : Int) = 0) := by omega
    have hs2 := Lib.hid hs1
    have hq9 : q ≤ 900 := by omega
    replace hqq := Lib.hid hqq
    replace hrr := Lib.hid hrr
    replace hjs := Lib.hid hjs
    clear hjl hcells1 hb1 hs1 hfit1 hql hroom
    go_wp2_with fail
    refine hJ.out.mono ?_
    rintro e w2 ⟨rfl, hb2⟩
    have hS2 := hS0.below hb2
    have hbw2 := Lib.hid (hbw0.trans (hb2.mono hbw0.size))
    clear hJ hb2 hS0 hbw0
    go_wp2
    go_loopw [8, 9, 10, 28] (fun _ _ _ i wr => ∃ (k : Nat) (L : List UInt8), k ≤ g + 1 ∧ i = .int .i64 (k : Int) ∧ L = part0 (room) g ws1 k ∧ L.length ≤ 3100000 ∧ BuiltIs w2.heap.size w2.heap.size L wr ∧ Below w2.heap.size w2 wr) (fun _ _ _ i _ => g + 1 - (intOf i).toNat)
    case atStart => exact ⟨0, [], by omega, rfl, rfl, by simp, Lib.IsBuilderF.of (Lib.fresh_isBuilder 77 5 w2), below_a1 _ _⟩
    case round =>
      rename World => wr
      obtain ⟨k, L, hk, rfl, hL, hLn, hB, hbw⟩ := hrel
      replace hL := Lib.hid hL
      have hwz := hbw.size
      by_cases hlt : k < g + 1
      · obtain ⟨bb, bo, x2, hA, hbb, hx, d0⟩ := str_at (hS2.below hbw) hlt
        cases hA
        have hxs2 := hs2.out x2 (List.mem_of_getElem? hx.out)
        have hk0 : (0 : Int) ≤ (k : Int) := Int.natCast_nonneg _
        have hk1 : (k : Int) < ((g + 1 : Nat) : Int) := by omega
        have hk2 : (k : Int) < (g : Int) + 1 := by omega
        have hLk1 := hpl.out (k + 1) (by rw [hl1.out]; omega)
        by_cases hk00 : k = 0
        · have hnx : Hid (L ++ x2.data.toList = part0 (room) g ws1 (k + 1)) := Lib.hid (by rw [hL.out, hk00, part0_one (by rw [← hk00]; exact hx.out)]; rfl)
          have g1 : decide ((0 : Int) < (k : Int)) = false := decide_eq_false (by omega)
          have g2 : decide (0 < k) = false := decide_eq_false (by omega)
          have hwr := Lib.hid (write_string w2.heap.size w2.heap.size L x2 wr hB (by omega) hwz)
          have hLk2 : (L ++ x2.data.toList).length ≤ 3100000 := by rw [hnx.out]; omega
          replace hLk2 := Lib.hid hLk2
          replace hk00 := Lib.hid hk00
          clear hB hLk1
          go_wp2_with fail
          refine hwr.out.mono ?_
          rintro e w3 ⟨rfl, hB3, hb3, _⟩
          replace hB3 := Lib.hid hB3
          have hbe := Lib.hid (hbw.trans hb3)
          clear hwr hb3
          go_wp2
          go_roundw
          case rel => exact ⟨k + 1, _, by omega, by go_num, hnx.out, hLk2.out, hB3.out, hbe.out⟩
          case measure => simp [intOf]; omega
        · have g1 : decide ((0 : Int) < (k : Int)) = true := decide_eq_true (by omega)
          have g2 : decide (0 < k) = true := decide_eq_true (by omega)
          have hgp := hqr.out k
          have hnx := part0_next (room := room) (g := g) hx.out (show 1 ≤ k by omega)
          rw [← hL.out] at hnx
          by_cases hkr : k ≤ r
          · rw [if_pos hkr] at hgp
            have g3 : decide ((k : Int) ≤ (r : Int)) = true := decide_eq_true (by omega)
            have g4 : decide (k ≤ r) = true := decide_eq_true hkr
            obtain ⟨Q, hQ⟩ : ∃ Q, q + 1 = Q := ⟨_, rfl⟩
            rw [hQ] at hgp hq4
            rw [hgp] at hnx
            have hbl := Lib.hid (fun W' => blanks8_impl Q (by omega) W')
            have hbs := blanksB_size Q
            have hw5 := Lib.hid (fun w4 (hB4 : BuiltIs w2.heap.size w2.heap.size L w4) hz => write_string w2.heap.size w2.heap.size L (blanksB Q) w4 hB4 (by omega) hz)
            have hw6 := Lib.hid (fun w5 (hB5 : BuiltIs w2.heap.size w2.heap.size (L ++ (blanksB Q).data.toList) w5) hz => write_string w2.heap.size w2.heap.size _ x2 w5 hB5 (by
              have : (blanksB Q).data.toList.length = (blanksB Q).size := rfl
              rw [List.length_append]; omega) hz)
            have hLk2 : (L ++ (blanksB Q).data.toList ++ x2.data.toList).length ≤ 3100000 := by rw [← hnx]; omega
            replace hLk2 := Lib.hid hLk2
            replace hnx := Lib.hid hnx
            have hB0 := Lib.hid hB
            clear hB hLk1 hbs hgp hkr
            generalize blanksB Q = BD at *
            go_wp2_with fail
            refine (hbl.out _).mono ?_
            rintro e w3 ⟨rfl, hb3⟩
            have hB3 := built8_below hB0.out hb3
            have hz3 := Nat.le_trans hwz hb3.size
            have hbe3 := Lib.hid (below_step8 hbw hb3 hwz)
            clear hB0 hb3
            go_wp2_with fail
            refine (hw5.out _ hB3 hz3).mono ?_
            rintro e w4 ⟨rfl, hB4, hb4, _⟩
            have hbe4 := Lib.hid (hbe3.out.trans hb4)
            have hz4 := hbe4.out.size
            clear hB3 hb4 hw5
            go_wp2_with fail
            refine (hw6.out _ hB4 hz4).mono ?_
            rintro e w5 ⟨rfl, hB5, hb5, _⟩
            replace hB5 := Lib.hid hB5
            have hbe5 := Lib.hid (hbe4.out.trans hb5)
            clear hB4 hb5 hw6
            go_wp2
            go_roundw
            case rel => exact ⟨k + 1, _, by omega, by go_num, hnx.out.symm, hLk2.out, hB5.out, hbe5.out⟩
            case measure => simp [intOf]; omega
          · rw [if_neg hkr, Nat.add_zero] at hgp
            have g3 : decide ((k : Int) ≤ (r : Int)) = false := decide_eq_false (by omega)
            have g4 : decide (k ≤ r) = false := decide_eq_false hkr
            obtain ⟨Q, hQ⟩ : ∃ Q, q = Q := ⟨_, rfl⟩
            subst hQ
            rw [hgp] at hnx
            have hbl := Lib.hid (fun W' => blanks8_impl q (by omega) W')
            have hbs := blanksB_size q
            have hw5 := Lib.hid (fun w4 (hB4 : BuiltIs w2.heap.size w2.heap.size L w4) hz => write_string w2.heap.size w2.heap.size L (blanksB q) w4 hB4 (by omega) hz)
            have hw6 := Lib.hid (fun w5 (hB5 : BuiltIs w2.heap.size w2.heap.size (L ++ (blanksB q).data.toList) w5) hz => write_string w2.heap.size w2.heap.size _ x2 w5 hB5 (by
              have : (blanksB q).data.toList.length = (blanksB q).size := rfl
              rw [List.length_append]; omega) hz)
            have hLk2 : (L ++ (blanksB q).data.toList ++ x2.data.toList).length ≤ 3100000 := by rw [← hnx]; omega
            replace hLk2 := Lib.hid hLk2
            replace hnx := Lib.hid hnx
            have hB0 := Lib.hid hB
            clear hB hLk1 hbs hgp hkr
            generalize blanksB q = BD at *
            go_wp2_with fail
            refine (hbl.out _).mono ?_
            rintro e w3 ⟨rfl, hb3⟩
            have hB3 := built8_below hB0.out hb3
            have hz3 := Nat.le_trans hwz hb3.size
            have hbe3 := Lib.hid (below_step8 hbw hb3 hwz)
            clear hB0 hb3
            go_wp2_with fail
            refine (hw5.out _ hB3 hz3).mono ?_
            rintro e w4 ⟨rfl, hB4, hb4, _⟩
            have hbe4 := Lib.hid (hbe3.out.trans hb4)
            have hz4 := hbe4.out.size
            clear hB3 hb4 hw5
            go_wp2_with fail
            refine (hw6.out _ hB4 hz4).mono ?_
            rintro e w5 ⟨rfl, hB5, hb5, _⟩
            replace hB5 := Lib.hid hB5
            have hbe5 := Lib.hid (hbe4.out.trans hb5)
            clear hB4 hb5 hw6
            go_wp2
            go_roundw
            case rel => exact ⟨k + 1, _, by omega, by go_num, hnx.out.symm, hLk2.out, hB5.out, hbe5.out⟩
            case measure => simp [intOf]; omega
      · obtain rfl : k = g + 1 := by omega
        have hk2 : ¬ (((g + 1 : Nat) : Int) < (g : Int) + 1) := by omega
        have hst := Lib.hid (Try.Builder_String_any_f w2.heap.size w2.heap.size _ wr hB hwz)
        clear hB
        go_wp2_with fail
        refine hst.out.mono ?_
        rintro e w3 ⟨rfl, _, hb3⟩
        go_wp2
        go_ret
        exact ⟨by rw [hres.out, ← hL.out]; rfl, (hbw2.out).trans ((hbw.trans hb3).mono hbw2.out.size)⟩
  · obtain ⟨g, hg⟩ : ∃ g, n = g + 1 := ⟨n - 1, by omega⟩
    subst hg
    rw [Nat.add_sub_cancel] at hln
    have hg0 : 0 < g := by omega
    have hroom : W - sizN ws = W - longN ws + g := by omega
    have hfit1 : sizN ws ≤ W := by omega
    have hres : Hid (setB W ws = ⟨(part0 (W - longN ws + g) g ws (g + 1)).toArray⟩) := Lib.hid (by rw [part0, if_neg (by omega), setB, setL, if_neg (by rw [hl.out]; exact h1), hroom, hl.out, Nat.add_sub_cancel])
    have hs1 := hs
    have hl1 := hl
    have hgn1 : (((g + 1 : Nat) : Int) == 1) = false := beq_eq_false_iff_ne.2 (by omega)
    have hgn2 : ((g : Int) + 1 == 1) = false := beq_eq_false_iff_ne.2 (by omega)
    have hgn3 : (g + 1 == 1) = false := beq_eq_false_iff_ne.2 (by omega)
    have hgn4 : (g == 0) = false := beq_eq_false_iff_ne.2 (by omega)
    have hS0 := h
    have hbw0 := Below.refl w.heap.size w
    have hcap1 := hc
    generalize hroomv : W - longN ws + g = room at *
    have hrm : room ≤ 900 := by omega
    clear hs hln hcells hfit hb h1 hroomv
    go_enter Try.func53, Try.ntmps53
    have hjl : (Lib.join (ws.map (·.data.toList)) (⟨#[]⟩ : ByteArray).data.toList).length ≤ 140737488355328 := by
      show (Lib.join (ws.map (·.data.toList)) []).length ≤ _
      rw [joinE_len]
      omega
    obtain ⟨hb1, hcells1⟩ := strs_cells hS0 (by omega)
    have hJ := Lib.hid (Try.strings_Join b off c ws ⟨#[]⟩ w hcells1 hb1 (by rw [hl1.out]; omega) (by rw [hl1.out]; exact hcap1) hjl)
    rw [hl1.out] at hJ
    have hjs : (⟨(Lib.join (ws.map (·.data.toList)) (⟨#[]⟩ : ByteArray).data.toList).toArray⟩ : ByteArray).size = sizN ws := by
      rw [← joinE_len ws]
      simp [ByteArray.size]
    generalize (⟨(Lib.join (ws.map (·.data.toList)) (⟨#[]⟩ : ByteArray).data.toList).toArray⟩ : ByteArray) = JB at *
    have hw1 : IntKind.i64.wrap ((W : Int) - (JB.size : Int)) = ((room : Nat) : Int) := by rw [IntWalk.i64_in _ (by omega)]; omega
    have hpl := Lib.hid (fun k hk => part0_len (room := room) (g := g) (by omega) hs1 k hk)
    have hql : (room) / g ≤ room := Nat.div_le_self _ _
    have hrl0 : (room) % g < g := Nat.mod_lt _ (by omega)
    have hq1' := quo9 (room) g
    have hq3' := rem9 (room) g
    obtain ⟨q, hqq⟩ : ∃ q, (room) / g = q := ⟨_, rfl⟩
    obtain ⟨r, hrr⟩ : ∃ r, (room) % g = r := ⟨_, rfl⟩
    have hqr : Hid (∀ i, gp9 (room) g i = q + (if i ≤ r then 1 else 0)) := Lib.hid (fun i => by rw [gp9, hqq, hrr])
    rw [hqq] at hql hq1'
    rw [hrr] at hrl0 hq3'
    have hwq : IntKind.i64.wrap (q : Int) = (q : Int) := IntWalk.i64_in _ (by omega)
    have hq4 : IntKind.i64.wrap ((q : Int) + 1) = ((q + 1 : Nat) : Int) := by rw [IntWalk.i64_in _ (by omega)]; omega
    have hwg : IntKind.i64.wrap (((g + 1 : Nat) : Int) - 1) = (g : Int) := by rw [IntWalk.i64_in _ (by omega)]; omega
    have hwg2 : IntKind.i64.wrap ((g : Int) + 1 - 1) = (g : Int) := by rw [IntWalk.i64_in _ (by omega)]; omega
    have hgz1 : ((g : Int) == 0) = false := beq_eq_false_iff_ne.2 (by omega)
    have hgz2 : ¬ ((g : Int) = 0) := by omega
    have hs2 := Lib.hid hs1
    have hq9 : q ≤ 900 := by omega
    replace hqq := Lib.hid hqq
    replace hrr := Lib.hid hrr
    replace hjs := Lib.hid hjs
    clear hjl hcells1 hb1 hs1 hfit1 hql hroom
    go_wp2_with fail
    refine hJ.out.mono ?_
    rintro e w2 ⟨rfl, hb2⟩
    have hS2 := hS0.below hb2
    have hbw2 := Lib.hid (hbw0.trans (hb2.mono hbw0.size))
    clear hJ hb2 hS0 hbw0
    go_wp2
    go_loopw [8, 9, 10, 28] (fun _ _ _ i wr => ∃ (k : Nat) (L : List UInt8), k ≤ g + 1 ∧ i = .int .i64 (k : Int) ∧ L = part0 (room) g ws k ∧ L.length ≤ 3100000 ∧ BuiltIs w2.heap.size w2.heap.size L wr ∧ Below w2.heap.size w2 wr) (fun _ _ _ i _ => g + 1 - (intOf i).toNat)
    case atStart => exact ⟨0, [], by omega, rfl, rfl, by simp, Lib.IsBuilderF.of (Lib.fresh_isBuilder 77 5 w2), below_a1 _ _⟩
    case round =>
      rename World => wr
      obtain ⟨k, L, hk, rfl, hL, hLn, hB, hbw⟩ := hrel
      replace hL := Lib.hid hL
      have hwz := hbw.size
      by_cases hlt : k < g + 1
      · obtain ⟨bb, bo, x2, hA, hbb, hx, d0⟩ := str_at (hS2.below hbw) hlt
        cases hA
        have hxs2 := hs2.out x2 (List.mem_of_getElem? hx.out)
        have hk0 : (0 : Int) ≤ (k : Int) := Int.natCast_nonneg _
        have hk1 : (k : Int) < ((g + 1 : Nat) : Int) := by omega
        have hk2 : (k : Int) < (g : Int) + 1 := by omega
        have hLk1 := hpl.out (k + 1) (by rw [hl1.out]; omega)
        by_cases hk00 : k = 0
        · have hnx : Hid (L ++ x2.data.toList = part0 (room) g ws (k + 1)) := Lib.hid (by rw [hL.out, hk00, part0_one (by rw [← hk00]; exact hx.out)]; rfl)
          have g1 : decide ((0 : Int) < (k : Int)) = false := decide_eq_false (by omega)
          have g2 : decide (0 < k) = false := decide_eq_false (by omega)
          have hwr := Lib.hid (write_string w2.heap.size w2.heap.size L x2 wr hB (by omega) hwz)
          have hLk2 : (L ++ x2.data.toList).length ≤ 3100000 := by rw [hnx.out]; omega
          replace hLk2 := Lib.hid hLk2
          replace hk00 := Lib.hid hk00
          clear hB hLk1
          go_wp2_with fail
          refine hwr.out.mono ?_
          rintro e w3 ⟨rfl, hB3, hb3, _⟩
          replace hB3 := Lib.hid hB3
          have hbe := Lib.hid (hbw.trans hb3)
          clear hwr hb3
          go_wp2
          go_roundw
          case rel => exact ⟨k + 1, _, by omega, by go_num, hnx.out, hLk2.out, hB3.out, hbe.out⟩
          case measure => simp [intOf]; omega
        · have g1 : decide ((0 : Int) < (k : Int)) = true := decide_eq_true (by omega)
          have g2 : decide (0 < k) = true := decide_eq_true (by omega)
          have hgp := hqr.out k
          have hnx := part0_next (room := room) (g := g) hx.out (show 1 ≤ k by omega)
          rw [← hL.out] at hnx
          by_cases hkr : k ≤ r
          · rw [if_pos hkr] at hgp
            have g3 : decide ((k : Int) ≤ (r : Int)) = true := decide_eq_true (by omega)
            have g4 : decide (k ≤ r) = true := decide_eq_true hkr
            obtain ⟨Q, hQ⟩ : ∃ Q, q + 1 = Q := ⟨_, rfl⟩
            rw [hQ] at hgp hq4
            rw [hgp] at hnx
            have hbl := Lib.hid (fun W' => blanks8_impl Q (by omega) W')
            have hbs := blanksB_size Q
            have hw5 := Lib.hid (fun w4 (hB4 : BuiltIs w2.heap.size w2.heap.size L w4) hz => write_string w2.heap.size w2.heap.size L (blanksB Q) w4 hB4 (by omega) hz)
            have hw6 := Lib.hid (fun w5 (hB5 : BuiltIs w2.heap.size w2.heap.size (L ++ (blanksB Q).data.toList) w5) hz => write_string w2.heap.size w2.heap.size _ x2 w5 hB5 (by
              have : (blanksB Q).data.toList.length = (blanksB Q).size := rfl
              rw [List.length_append]; omega) hz)
            have hLk2 : (L ++ (blanksB Q).data.toList ++ x2.data.toList).length ≤ 3100000 := by rw [← hnx]; omega
            replace hLk2 := Lib.hid hLk2
            replace hnx := Lib.hid hnx
            have hB0 := Lib.hid hB
            clear hB hLk1 hbs hgp hkr
            generalize blanksB Q = BD at *
            go_wp2_with fail
            refine (hbl.out _).mono ?_
            rintro e w3 ⟨rfl, hb3⟩
            have hB3 := built8_below hB0.out hb3
            have hz3 := Nat.le_trans hwz hb3.size
            have hbe3 := Lib.hid (below_step8 hbw hb3 hwz)
            clear hB0 hb3
            go_wp2_with fail
            refine (hw5.out _ hB3 hz3).mono ?_
            rintro e w4 ⟨rfl, hB4, hb4, _⟩
            have hbe4 := Lib.hid (hbe3.out.trans hb4)
            have hz4 := hbe4.out.size
            clear hB3 hb4 hw5
            go_wp2_with fail
            refine (hw6.out _ hB4 hz4).mono ?_
            rintro e w5 ⟨rfl, hB5, hb5, _⟩
            replace hB5 := Lib.hid hB5
            have hbe5 := Lib.hid (hbe4.out.trans hb5)
            clear hB4 hb5 hw6
            go_wp2
            go_roundw
            case rel => exact ⟨k + 1, _, by omega, by go_num, hnx.out.symm, hLk2.out, hB5.out, hbe5.out⟩
            case measure => simp [intOf]; omega
          · rw [if_neg hkr, Nat.add_zero] at hgp
            have g3 : decide ((k : Int) ≤ (r : Int)) = false := decide_eq_false (by omega)
            have g4 : decide (k ≤ r) = false := decide_eq_false hkr
            obtain ⟨Q, hQ⟩ : ∃ Q, q = Q := ⟨_, rfl⟩
            subst hQ
            rw [hgp] at hnx
            have hbl := Lib.hid (fun W' => blanks8_impl q (by omega) W')
            have hbs := blanksB_size q
            have hw5 := Lib.hid (fun w4 (hB4 : BuiltIs w2.heap.size w2.heap.size L w4) hz => write_string w2.heap.size w2.heap.size L (blanksB q) w4 hB4 (by omega) hz)
            have hw6 := Lib.hid (fun w5 (hB5 : BuiltIs w2.heap.size w2.heap.size (L ++ (blanksB q).data.toList) w5) hz => write_string w2.heap.size w2.heap.size _ x2 w5 hB5 (by
              have : (blanksB q).data.toList.length = (blanksB q).size := rfl
              rw [List.length_append]; omega) hz)
            have hLk2 : (L ++ (blanksB q).data.toList ++ x2.data.toList).length ≤ 3100000 := by rw [← hnx]; omega
            replace hLk2 := Lib.hid hLk2
            replace hnx := Lib.hid hnx
            have hB0 := Lib.hid hB
            clear hB hLk1 hbs hgp hkr
            generalize blanksB q = BD at *
            go_wp2_with fail
            refine (hbl.out _).mono ?_
            rintro e w3 ⟨rfl, hb3⟩
            have hB3 := built8_below hB0.out hb3
            have hz3 := Nat.le_trans hwz hb3.size
            have hbe3 := Lib.hid (below_step8 hbw hb3 hwz)
            clear hB0 hb3
            go_wp2_with fail
            refine (hw5.out _ hB3 hz3).mono ?_
            rintro e w4 ⟨rfl, hB4, hb4, _⟩
            have hbe4 := Lib.hid (hbe3.out.trans hb4)
            have hz4 := hbe4.out.size
            clear hB3 hb4 hw5
            go_wp2_with fail
            refine (hw6.out _ hB4 hz4).mono ?_
            rintro e w5 ⟨rfl, hB5, hb5, _⟩
            replace hB5 := Lib.hid hB5
            have hbe5 := Lib.hid (hbe4.out.trans hb5)
            clear hB4 hb5 hw6
            go_wp2
            go_roundw
            case rel => exact ⟨k + 1, _, by omega, by go_num, hnx.out.symm, hLk2.out, hB5.out, hbe5.out⟩
            case measure => simp [intOf]; omega
      · obtain rfl : k = g + 1 := by omega
        have hk2 : ¬ (((g + 1 : Nat) : Int) < (g : Int) + 1) := by omega
        have hst := Lib.hid (Try.Builder_String_any_f w2.heap.size w2.heap.size _ wr hB hwz)
        clear hB
        go_wp2_with fail
        refine hst.out.mono ?_
        rintro e w3 ⟨rfl, _, hb3⟩
        go_wp2
        go_ret
        exact ⟨by rw [hres.out, ← hL.out]; rfl, (hbw2.out).trans ((hbw.trans hb3).mono hbw2.out.size)⟩
end Go.Proofs.Ytcaojaaooadeaaa
