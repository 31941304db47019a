/- LineOf: the model's function and the program's. -/
import Derived.Test.YtphhpmnigchooaaLine0
namespace Go.Proofs.Ytphhpmnigchooaa
open Go.RowKit Go.ChangeShapes Go.WideShapes Go.Deep
set_option linter.unusedVariables false
set_option linter.unusedSimpArgs false

theorem lineR_no1 {c : CarriageD} {l : List StruckD} (h : carOk c = false) : lineR c l = (⟨#[]⟩, 1) := by simp [lineR, h]
theorem lineR_no2 {c : CarriageD} {l : List StruckD} (h : lineOk l = false) : lineR c l = (⟨#[]⟩, 1) := by simp [lineR, h]
theorem lineR_yes {c : CarriageD} {l : List StruckD} (h : carOk c = true) (h2 : lineOk l = true) : lineR c l = (⟨(lineGo c [] l).1.toArray⟩, (lineGo c [] l).2) := by simp [lineR, h, h2]
theorem byte0_at {s : ByteArray} (h : 0 < s.size) : s[0]'h = byte0 s := by simp [byte0, h]
theorem map_snoc (l : List UInt8) (b : UInt8) : (l ++ [b]).map byteU = l.map byteU ++ [.int .u8 (b.toNat : Int)] := by simp [byteU]
theorem pad_more (l : List UInt8) (n j : Nat) (h : l.length + j < n) : (l ++ List.replicate j 32) ++ [32] = l ++ List.replicate (j + 1) (32 : UInt8) := by
  rw [List.append_assoc, List.replicate_succ']
theorem pad_full (l : List UInt8) (n j : Nat) (h1 : n ≤ l.length + j) (h2 : j ≤ n - l.length) : l ++ List.replicate j 32 = pad l n := by
  unfold pad
  rw [show j = n - l.length by omega]
theorem ne32 {b : UInt8} (h : ¬ b = 32) : ((b.toNat : Int) != 32) = true := by
  rw [bne_iff_ne]
  intro e
  apply h
  apply UInt8.toNat_inj.1
  have h5 : b.toNat = 32 := by omega
  exact h5
theorem owns_apart2 {w : World} {base R : Nat} {E T : TypeId} {size n : Nat} {v : Value} {xs : List Value} {cs : Array Value} (h : w.ownsRow base E size v n xs) (hr : w.heap[R]? = some (.cells cs T)) (hne : E ≠ T) : v.ownBlock ≠ some R := by
  obtain ⟨_, ⟨rfl, _⟩ | ⟨g, cap, cur, rfl, _, hg, _⟩⟩ := h
  · simp [Value.ownBlock]
  · simp only [Value.ownBlock]
    intro e
    cases e
    rw [hg] at hr
    cases hr
    exact hne rfl
theorem owns_ge2 {w : World} {base : Nat} {E : TypeId} {size n g : Nat} {v : Value} {xs : List Value} (h : w.ownsRow base E size v n xs) (hg : v.ownBlock = some g) : base ≤ g := by
  obtain ⟨_, ⟨rfl, _⟩ | ⟨g', cap, cur, rfl, hb, _⟩⟩ := h
  · cases hg
  · cases hg; exact hb

set_option maxRecDepth 100000 in
set_option maxHeartbeats 4000000 in
theorem lineOf_impl (r : CarriageD) (A : Option Addr) (n c : Nat) (xs : List StruckD) (w : World) (hg : r.good) (h : Strucks w A n xs) (hn : n ≤ 1048576) (hx : ∀ x ∈ xs, x.good) :
    Calls Try.prog 6 #[.agg #[.int .i64 r.left, .int .i64 r.right, .int .i64 r.bell], .slice A n c] w fun e w' => e = .returned (.tuple #[.string (lineR r xs).1, .int .i64 (lineR r xs).2]) ∧ Below w.heap.size w w' := by
  obtain ⟨i0, hi, hz0, hz1, hz2⟩ := info_parts Try.infoU8
  cases hc : carOk r with
  | false =>
    have hc1 := Lib.hid (fun W => car_impl r hc W)
    rw [lineR_no1 hc]
    clear hc hx
    obtain ⟨left, right, bell⟩ := r
    go_enter Try.func6, Try.ntmps6
    go_wp2_with fail
    refine (hc1.out _).mono ?_
    rintro e w1 ⟨rfl, hb1⟩
    go_wp2
    go_ret2
    exact ⟨rfl, (below_a1 _ _).step hb1⟩
  | true =>
    have hcc := carOk_iff.1 hc
    have hc1 := Lib.hid (fun W => car_impl r hc W)
    cases hl : lineOk xs with
    | false =>
      have hl1 := Lib.hid (fun W (hS : Strucks W A n xs) => line_impl A n c xs W hS hn hx hl)
      rw [lineR_no2 hl]
      clear hc hx hl
      obtain ⟨left, right, bell⟩ := r
      go_enter Try.func6, Try.ntmps6
      go_wp2_with fail
      refine (hc1.out _).mono ?_
      rintro e w1 ⟨rfl, hb1⟩
      have hb2 := (below_a1 _ _).step hb1
      have hS := h.below hb2
      go_wp2_with fail
      refine (hl1.out _ hS).mono ?_
      rintro e w2 ⟨rfl, hb3⟩
      go_wp2
      go_ret2
      exact ⟨rfl, hb2.step hb3⟩
    | true =>
      have hl1 := Lib.hid (fun W (hS : Strucks W A n xs) => line_impl A n c xs W hS hn hx hl)
      have hmem := Lib.hid (line_mem hl)
      obtain ⟨⟨l0, l1⟩, ⟨r0, r1⟩, r2, b0, b1⟩ := hcc
      rw [lineR_yes hc hl]
      obtain ⟨p, hp⟩ : ∃ p, lineGo r [] xs = p := ⟨_, rfl⟩
      have hp2 : Hid (p = lineGo r [] (xs.drop 0)) := Lib.hid hp.symm
      rw [hp]
      have hcat : ∀ s ∈ xs, 0 ≤ s.place ∧ s.place ≤ 300 ∧ 0 < s.letter.size := fun s hs => ⟨(hmem.out s hs).1.1, (hmem.out s hs).1.2, by rw [isLet_size1 (hmem.out s hs).2]; omega⟩
      replace hcat := Lib.hid hcat
      have hhalf := Lib.hid (fun (s : StruckD) (W : World) (h2 : 0 ≤ s.place) (h3 : s.place ≤ 300) (v : Bool) (hv : oddAt r s = v) => halves_impl r s W l0 l1 h2 h3 hv)
      clear hp hc hx hl
      obtain ⟨left, right, bell⟩ := r
      simp only at l0 l1 r0 r1 r2 b0 b1
      go_enter Try.func6, Try.ntmps6
      go_wp2_with fail
      refine (hc1.out _).mono ?_
      rintro e w1 ⟨rfl, hb1⟩
      have d0 : w1.cell? ⟨w.heap.size, 0, none⟩ = some (.int .i64 left) := cell_step (cell_new rfl rfl) hb1
      have d1 : w1.cell? ⟨w.heap.size, 1, none⟩ = some (.int .i64 right) := cell_step (cell_new rfl rfl) hb1
      have d2 : w1.cell? ⟨w.heap.size, 2, none⟩ = some (.int .i64 bell) := cell_step (cell_new rfl rfl) hb1
      have hb2 := (below_a1 _ _).step hb1
      have hS := h.below hb2
      go_wp2_with fail
      refine (hl1.out _ hS).mono ?_
      rintro e w2 ⟨rfl, hb3⟩
      replace d0 := cell_step d0 hb3
      replace d1 := cell_step d1 hb3
      replace d2 := cell_step d2 hb3
      have hS2 := hS.below hb3
      have hbb := Lib.hid (hb2.step hb3)
      clear hb1 hb2 hb3 hS h hc1 hl1
      generalize hN : w.heap.size = N at *
      replace hN := Lib.hid hN
      have hNlt := World.block_lt_of_cell? _ _ d0
      simp only at hNlt
      go_wp2
      go_loopw [6, 20] (fun v i wr => ∃ (k : Nat) (line : List UInt8), k ≤ n ∧ i = .int .i64 k ∧ Below w2.heap.size w2 wr ∧ OBytes wr w2.heap.size v line ∧ line.length ≤ 151 ∧ p = lineGo ⟨left, right, bell⟩ line (xs.drop k)) (fun _ i _ => n - (intOf i).toNat)
      case atStart => exact ⟨0, [], by omega, rfl, Below.refl _ _, ⟨rfl, .inl ⟨rfl, rfl⟩⟩, by simp, hp2.out⟩
      case round =>
        rename World => wr
        obtain ⟨k, line, hk, rfl, hbw, hrow, hll, he⟩ := hrel
        replace he := Lib.hid he
        by_cases hlt : k < n
        · obtain ⟨bb, off, x, rfl, hb', hxs, c0, c1⟩ := struck_at (hS2.below hbw) hlt
          have d0w := (hbw.cell (p := ⟨N, 0, none⟩) hNlt).trans d0
          have d1w := (hbw.cell (p := ⟨N, 1, none⟩) hNlt).trans d1
          have d2w := (hbw.cell (p := ⟨N, 2, none⟩) hNlt).trans d2
          obtain ⟨x0, x1, x2⟩ := hcat.out x (List.mem_of_getElem? hxs.out)
          have hk0 : (0 : Int) ≤ (k : Int) := Int.natCast_nonneg _
          have hk1 : (k : Int) < (n : Int) := by omega
          have hNw : N < wr.heap.size := Nat.lt_of_lt_of_le hNlt hbw.size
          by_cases hpl : x.place < left
          · have g0 : decide (x.place < left) = true := decide_eq_true hpl
            have hr : Hid (p = ([], 8)) := Lib.hid (by rw [he.out]; exact lineGo_bad hxs.out (.inl hpl))
            replace hrow := Lib.hid hrow
            go_wp2
            go_ret2
            obtain rfl := hN.out
            exact ⟨by rw [hr.out]; rfl, hbb.out.step (hbw.step (below_a1 _ _))⟩
          · have g0 : decide (x.place < left) = false := decide_eq_false hpl
            cases hod : oddAt ⟨left, right, bell⟩ x with
            | true =>
              have g2 : (Int.tmod (x.place - left) 2 != 0) = true := hod
              have g3 : ((x.place - left) % 2 != 0) = true := by rw [Int.tmod_eq_emod_of_nonneg (by omega)] at g2; exact g2
              replace hod := Lib.hid hod
              have hr : Hid (p = ([], 8)) := Lib.hid (by rw [he.out]; exact lineGo_bad hxs.out (.inr hod.out))
              replace hrow := Lib.hid hrow
              go_wp2_with fail
              refine (hhalf.out x _ x0 x1 true hod.out).mono ?_
              rintro e w3 ⟨rfl, hb3⟩
              have hbw3 := (hbw.step (below_a1 _ _)).step hb3
              go_wp2
              go_ret2
              obtain rfl := hN.out
              exact ⟨by rw [hr.out]; rfl, hbb.out.step hbw3⟩
            | false =>
              have g2 : (Int.tmod (x.place - left) 2 != 0) = false := hod
              have g3 : ((x.place - left) % 2 != 0) = false := by rw [Int.tmod_eq_emod_of_nonneg (by omega)] at g2; exact g2
              have hno : ¬ (x.place < left ∨ oddAt ⟨left, right, bell⟩ x = true) := by rw [hod]; simp; omega
              obtain ⟨hq, hq2⟩ := even_idx (c := ⟨left, right, bell⟩) hno
              have hq3 := hq2 x1 l0
              have hclash := Lib.hid (fun h2 => lineGo_clash (c := ⟨left, right, bell⟩) (line := line) hxs.out hno h2)
              have hon := Lib.hid (fun h2 => lineGo_on (c := ⟨left, right, bell⟩) (line := line) hxs.out hno h2)
              clear hno hq2
              generalize idxOf ⟨left, right, bell⟩ x = q at *
              replace hod := Lib.hid hod
              simp only at hq
              have hqe : (x.place - left) / 2 = (q : Int) := by rw [← hq, Int.tdiv_eq_ediv_of_nonneg (by omega)]
              obtain ⟨_, Av, cv, rfl⟩ := obytes_len hrow
              have hrow0 := Lib.hid hrow
              clear hrow
              go_wp2_with fail
              refine (hhalf.out x _ x0 x1 false hod.out).mono ?_
              rintro e w3 ⟨rfl, hb3⟩
              have hbw3 := (hbw.step (below_a1 _ _)).step hb3
              have hrow := owns_below hrow0.out ((below_a1 _ _).step hb3)
              have s0 : w3.cell? ⟨wr.heap.size, 0, none⟩ = some (.int .i64 x.place) := cell_step (cell_new rfl rfl) hb3
              have s1 : w3.cell? ⟨wr.heap.size, 1, none⟩ = some (.string x.letter) := cell_step (cell_new rfl rfl) hb3
              have d0w3 := cell_step (cell_on d0w (.cells #[.int .i64 x.place, .string x.letter] 41)) hb3
              have hsb := Lib.hid (own_block hb3)
              clear hb3
              go_wp2
              go_loopw [6] (fun v' wi => ∃ j : Nat, Below w2.heap.size w2 wi ∧ OBytes wi w2.heap.size v' (line ++ List.replicate j 32) ∧ j ≤ q + 1 - line.length ∧ wi.heap[wr.heap.size]? = some (.cells #[.int .i64 x.place, .string x.letter] 41)) (fun v' _ => q + 1 - lenV v')
              case atStart => exact ⟨0, hbw3, by simpa using hrow, by omega, hsb.out⟩
              case round =>
                rename World => wi
                obtain ⟨j, hbi, hri, hj, hsb⟩ := hrel
                obtain ⟨L, hL⟩ : ∃ L, line ++ List.replicate j 32 = L := ⟨_, rfl⟩
                have hLl : L.length = line.length + j := by rw [← hL]; simp
                rw [hL] at hri
                replace hL := Lib.hid hL
                have hj0 : Hid (j ≤ q + 1 - line.length) := Lib.hid hj
                clear hj
                replace hLl := Lib.hid hLl
                obtain ⟨_, A2, c2, rfl⟩ := obytes_len hri
                by_cases hcq : L.length ≤ q
                · have g5 : decide ((L.length : Int) ≤ (q : Int)) = true := decide_eq_true (by omega)
                  have hri0 := Lib.hid hri
                  have hbiz := hbi.size
                  have hne := owns_apart2 hri hsb (by decide)
                  clear hri
                  go_wp2_with (at_builtin; refine wpList_append_own _ rfl _ _ 22 rfl w2.heap.size 5 i0 _ 1 1 Try.underlying22 hi hz0 hz1 hz2 rfl (by decide) _ _ _ rfl (hri0.out.alloc _) ⟨wi.heap.size, 0, none⟩ 1 1 [.int .u8 32] rfl rfl ?a1 ?b1 ?c1 ?d1 ?e1 ?_)
                  case a1 =>
                    intro j u hj
                    match j, hj with
                    | 0, hj => cases hj; exact cell_new (by simp [Addr.add]) rfl
                    | j + 1, hj => simp at hj
                  case b1 =>
                    intro u hu
                    simp only [List.mem_cons, List.not_mem_nil, or_false] at hu
                    rcases hu with rfl; rfl
                  case c1 => unfold maxLen; omega
                  case d1 => omega
                  case e1 =>
                    simp
                    omega
                  intro v2 wj hown hgr hnil
                  have hgr2 := grown_trans (grown_below (below_a1 wi _) _) hgr
                  have hrow2 : Hid (OBytes wj w2.heap.size v2 (line ++ List.replicate (j + 1) 32)) := Lib.hid (by rw [← pad_more line (q + 1) j (by have := hLl.out; omega), hL.out]; show wj.ownsRow _ _ _ _ (L ++ [32]).length _; rw [map_snoc, List.length_append]; exact hown)
                  have hb2 := Lib.hid (hbi.grown hgr2 hbiz (fun j hj => owns_ge2 hri0.out hj))
                  have hlv2 : Hid (lenV v2 = L.length + 1) := Lib.hid (by rw [(obytes_len hrow2.out).1]; have := hLl.out; simp; omega)
                  have hsb2 := Lib.hid ((hgr2.block wr.heap.size (Array.getElem?_eq_some_iff.1 hsb).1 hne.symm).trans hsb)
                  clear hown hgr hnil hgr2
                  go_wp2
                  go_roundw
                  case rel => exact ⟨j + 1, hb2.out, hrow2.out, by have := hLl.out; omega, hsb2.out⟩
                  case measure => rw [show lenV (Value.slice A2 L.length c2) = L.length from rfl]; simp [hlv2.out]; omega
                · have g5 : decide ((L.length : Int) ≤ (q : Int)) = false := decide_eq_false (by omega)
                  have hP : L = pad line (q + 1) := by rw [← hL.out]; exact pad_full line (q + 1) j (by have := hLl.out; omega) hj0.out
                  rw [← hP] at hclash hon
                  have hLb : Hid (L.length ≤ 151) := Lib.hid (by rw [hP, pad_length]; omega)
                  clear hP
                  obtain ⟨g, cap, hv, hbg, hgl, hcell, hfz, hset⟩ := obytes_at hri (by omega)
                  obtain ⟨rfl, rfl⟩ : A2 = some ⟨g, 0, none⟩ ∧ c2 = cap := by simpa using hv
                  have hqL : q < L.length := by omega
                  have hqi : (q : Int) < (L.length : Int) := by omega
                  have hq0 : (0 : Int) ≤ (q : Int) := Int.natCast_nonneg _
                  have k0 := hcell q L[q] (List.getElem?_eq_getElem hqL)
                  have z0 := hfz q
                  clear hv hcell hfz
                  have t0 : wi.cell? ⟨wr.heap.size, 0, none⟩ = some (.int .i64 x.place) := own_cell hsb (o := 0) rfl
                  have t1 : wi.cell? ⟨wr.heap.size, 1, none⟩ = some (.string x.letter) := own_cell hsb (o := 1) rfl
                  have hsl := own_lt hsb
                  by_cases h32 : L[q] = 32
                  · replace k0 : wi.cell? ⟨g, q, none⟩ = some (.int .u8 32) := by rw [k0, h32]; rfl
                    have hnx : Hid (p = lineGo ⟨left, right, bell⟩ (L.set q (byte0 x.letter)) (xs.drop (k + 1))) := Lib.hid (by rw [he.out]; exact hon.out (by rw [List.getElem?_eq_getElem hqL, h32]))
                    have hst := Lib.hid (hset q (byte0 x.letter) hqL)
                    have hby := byte0_at x2
                    have hbs := Lib.hid (hbi.setCell (p := ⟨g, q, none⟩) hbg (.int .u8 ((byte0 x.letter).toNat : Int)))
                    clear h32 hset hri
                    go_wp2
                    go_roundw
                    case rel => exact ⟨k + 1, L.set q (byte0 x.letter), by omega, by go_num, hbs.out, hst.out, by rw [List.length_set]; exact hLb.out, hnx.out⟩
                    case measure => simp [intOf]; omega
                  · have hne32 : ((L[q].toNat : Int) != 32) = true := ne32 h32
                    have hr : Hid (p = ([], 9)) := Lib.hid (by rw [he.out]; exact hclash.out (by rw [List.getElem?_eq_getElem hqL]; intro e; exact h32 (by simpa using e)))
                    replace hri := Lib.hid hri
                    clear h32 hset
                    go_wp2
                    go_ret2
                    obtain rfl := hN.out
                    exact ⟨by rw [hr.out]; rfl, hbb.out.step hbi⟩
        · obtain rfl : k = n := by omega
          have hr : Hid (p = (line, 0)) := Lib.hid (by rw [he.out, lineGo_end hS2.1])
          obtain ⟨_, Av, cv, rfl⟩ := obytes_len hrow
          have hcv2 := obytes_conv hrow
          replace hrow := Lib.hid hrow
          go_wp2
          go_ret2
          obtain rfl := hN.out
          exact ⟨by rw [hr.out]; rfl, hbb.out.step hbw⟩

set_option maxRecDepth 100000 in
set_option maxHeartbeats 4000000 in
theorem lineOf_spec (r : CarriageD) (A : Option Addr) (n c : Nat) (xs : List StruckD) (w : World) (hg : r.good) (h : Strucks w A n xs) (hn : n ≤ 1048576) (hx : ∀ x ∈ xs, x.good) :
    Calls Try.prog 7 #[.agg #[.int .i64 r.left, .int .i64 r.right, .int .i64 r.bell], .slice A n c] w fun e w' => e = .returned (.tuple #[.string (lineR r xs).1, .int .i64 (lineR r xs).2]) ∧ Below w.heap.size w w' := by
  obtain ⟨i0, hi, hz0, hz1, hz2⟩ := info_parts Try.infoU8
  cases hc : carOk r with
  | false =>
    have hc1 := Lib.hid (fun W => car_spec r hc W)
    rw [lineR_no1 hc]
    clear hc hx
    obtain ⟨left, right, bell⟩ := r
    go_enter Try.func7, Try.ntmps7
    go_wp2_with fail
    refine (hc1.out _).mono ?_
    rintro e w1 ⟨rfl, hb1⟩
    go_wp2
    go_ret2
    exact ⟨rfl, (below_a1 _ _).step hb1⟩
  | true =>
    have hcc := carOk_iff.1 hc
    have hc1 := Lib.hid (fun W => car_spec r hc W)
    cases hl : lineOk xs with
    | false =>
      have hl1 := Lib.hid (fun W (hS : Strucks W A n xs) => line_spec A n c xs W hS hn hx hl)
      rw [lineR_no2 hl]
      clear hc hx hl
      obtain ⟨left, right, bell⟩ := r
      go_enter Try.func7, Try.ntmps7
      go_wp2_with fail
      refine (hc1.out _).mono ?_
      rintro e w1 ⟨rfl, hb1⟩
      have hb2 := (below_a1 _ _).step hb1
      have hS := h.below hb2
      go_wp2_with fail
      refine (hl1.out _ hS).mono ?_
      rintro e w2 ⟨rfl, hb3⟩
      go_wp2
      go_ret2
      exact ⟨rfl, hb2.step hb3⟩
    | true =>
      have hl1 := Lib.hid (fun W (hS : Strucks W A n xs) => line_spec A n c xs W hS hn hx hl)
      have hmem := Lib.hid (line_mem hl)
      obtain ⟨⟨l0, l1⟩, ⟨r0, r1⟩, r2, b0, b1⟩ := hcc
      rw [lineR_yes hc hl]
      obtain ⟨p, hp⟩ : ∃ p, lineGo r [] xs = p := ⟨_, rfl⟩
      have hp2 : Hid (p = lineGo r [] (xs.drop 0)) := Lib.hid hp.symm
      rw [hp]
      have hcat : ∀ s ∈ xs, 0 ≤ s.place ∧ s.place ≤ 300 ∧ 0 < s.letter.size := fun s hs => ⟨(hmem.out s hs).1.1, (hmem.out s hs).1.2, by rw [isLet_size1 (hmem.out s hs).2]; omega⟩
      replace hcat := Lib.hid hcat
      clear hp hc hx hl
      obtain ⟨left, right, bell⟩ := r
      simp only at l0 l1 r0 r1 r2 b0 b1
      go_enter Try.func7, Try.ntmps7
      go_wp2_with fail
      refine (hc1.out _).mono ?_
      rintro e w1 ⟨rfl, hb1⟩
      have d0 : w1.cell? ⟨w.heap.size, 0, none⟩ = some (.int .i64 left) := cell_step (cell_new rfl rfl) hb1
      have d1 : w1.cell? ⟨w.heap.size, 1, none⟩ = some (.int .i64 right) := cell_step (cell_new rfl rfl) hb1
      have d2 : w1.cell? ⟨w.heap.size, 2, none⟩ = some (.int .i64 bell) := cell_step (cell_new rfl rfl) hb1
      have hb2 := (below_a1 _ _).step hb1
      have hS := h.below hb2
      go_wp2_with fail
      refine (hl1.out _ hS).mono ?_
      rintro e w2 ⟨rfl, hb3⟩
      replace d0 := cell_step d0 hb3
      replace d1 := cell_step d1 hb3
      replace d2 := cell_step d2 hb3
      have hS2 := hS.below hb3
      have hbb := Lib.hid (hb2.step hb3)
      clear hb1 hb2 hb3 hS h hc1 hl1
      generalize hN : w.heap.size = N at *
      replace hN := Lib.hid hN
      have hNlt := World.block_lt_of_cell? _ _ d0
      simp only at hNlt
      go_wp2
      go_loopw [6, 7] (fun v i wr => ∃ (k : Nat) (line : List UInt8), k ≤ n ∧ i = .int .i64 k ∧ Below w2.heap.size w2 wr ∧ OBytes wr w2.heap.size v line ∧ line.length ≤ 151 ∧ p = lineGo ⟨left, right, bell⟩ line (xs.drop k)) (fun _ i _ => n - (intOf i).toNat)
      case atStart => exact ⟨0, [], by omega, rfl, below_a1 _ _, ⟨rfl, .inr ⟨w2.heap.size, 0, #[], rfl, Nat.le_refl _, heap_alloc_new _ _, Nat.le_refl _, by unfold maxLen; omega, rfl, rfl⟩⟩, by simp, hp2.out⟩
      case round =>
        rename World => wr
        obtain ⟨k, line, hk, rfl, hbw, hrow, hll, he⟩ := hrel
        replace he := Lib.hid he
        by_cases hlt : k < n
        · obtain ⟨bb, off, x, rfl, hb', hxs, c0, c1⟩ := struck_at (hS2.below hbw) hlt
          have d0w := (hbw.cell (p := ⟨N, 0, none⟩) hNlt).trans d0
          have d1w := (hbw.cell (p := ⟨N, 1, none⟩) hNlt).trans d1
          have d2w := (hbw.cell (p := ⟨N, 2, none⟩) hNlt).trans d2
          obtain ⟨x0, x1, x2⟩ := hcat.out x (List.mem_of_getElem? hxs.out)
          have hk0 : (0 : Int) ≤ (k : Int) := Int.natCast_nonneg _
          have hk1 : (k : Int) < (n : Int) := by omega
          have hNw : N < wr.heap.size := Nat.lt_of_lt_of_le hNlt hbw.size
          by_cases hpl : x.place < left
          · have g0 : decide (x.place < left) = true := decide_eq_true hpl
            have g1 : decide (x.place - left < 0) = true := decide_eq_true (by omega)
            have hr : Hid (p = ([], 8)) := Lib.hid (by rw [he.out]; exact lineGo_bad hxs.out (.inl hpl))
            replace hrow := Lib.hid hrow
            go_wp2_with fail
            go_quiet (fail)
            go_wp2
            go_ret2
            obtain rfl := hN.out
            exact ⟨by rw [hr.out]; rfl, hbb.out.step (below_drewN hbw _)⟩
          · have g0 : decide (x.place < left) = false := decide_eq_false hpl
            have g1 : decide (x.place - left < 0) = false := decide_eq_false (by omega)
            cases hod : oddAt ⟨left, right, bell⟩ x with
            | true =>
              have g2 : (Int.tmod (x.place - left) 2 != 0) = true := hod
              have g3 : ((x.place - left) % 2 != 0) = true := by rw [Int.tmod_eq_emod_of_nonneg (by omega)] at g2; exact g2
              replace hod := Lib.hid hod
              have hr : Hid (p = ([], 8)) := Lib.hid (by rw [he.out]; exact lineGo_bad hxs.out (.inr hod.out))
              replace hrow := Lib.hid hrow
              go_wp2_with fail
              go_quiet (fail)
              go_wp2
              go_ret2
              obtain rfl := hN.out
              exact ⟨by rw [hr.out]; rfl, hbb.out.step (below_drewN hbw _)⟩
            | false =>
              have g2 : (Int.tmod (x.place - left) 2 != 0) = false := hod
              have g3 : ((x.place - left) % 2 != 0) = false := by rw [Int.tmod_eq_emod_of_nonneg (by omega)] at g2; exact g2
              have hno : ¬ (x.place < left ∨ oddAt ⟨left, right, bell⟩ x = true) := by rw [hod]; simp; omega
              obtain ⟨hq, hq2⟩ := even_idx (c := ⟨left, right, bell⟩) hno
              have hq3 := hq2 x1 l0
              have hclash := Lib.hid (fun h2 => lineGo_clash (c := ⟨left, right, bell⟩) (line := line) hxs.out hno h2)
              have hon := Lib.hid (fun h2 => lineGo_on (c := ⟨left, right, bell⟩) (line := line) hxs.out hno h2)
              clear hno hq2
              generalize idxOf ⟨left, right, bell⟩ x = q at *
              replace hod := Lib.hid hod
              simp only at hq
              have hqe : (x.place - left) / 2 = (q : Int) := by rw [← hq, Int.tdiv_eq_ediv_of_nonneg (by omega)]
              obtain ⟨_, Av, cv, rfl⟩ := obytes_len hrow
              have hbk : bb < w2.heap.size := by obtain ⟨b2, o2, x2, e2, hb2, _⟩ := struck_at hS2 hlt; cases e2; exact hb2
              replace c0 := (hbw.cell (p := ⟨bb, off + k * 2, none⟩) hbk).symm.trans c0
              replace c1 := (hbw.cell (p := ⟨bb, off + k * 2 + 1, none⟩) hbk).symm.trans c1
              have c0w := (hbw.cell (p := ⟨bb, off + k * 2, none⟩) hbk).trans c0
              have c1w := (hbw.cell (p := ⟨bb, off + k * 2 + 1, none⟩) hbk).trans c1
              have hrow0 := Lib.hid hrow
              clear hrow
              go_wp2_with fail
              go_quiet (fail)
              have hbw3 := below_drewN hbw nq
              have hrow : OBytes (wr.drewN nq) w2.heap.size _ line := hrow0.out
              clear c0w c1w
              generalize wr.drewN nq = w3 at *
              go_wp2
              go_loopw [6] (fun v' wi => ∃ j : Nat, Below w2.heap.size w2 wi ∧ OBytes wi w2.heap.size v' (line ++ List.replicate j 32) ∧ j ≤ q + 1 - line.length ) (fun v' _ => q + 1 - lenV v')
              case atStart => exact ⟨0, hbw3, by simpa using hrow, by omega⟩
              case round =>
                rename World => wi
                obtain ⟨j, hbi, hri, hj⟩ := hrel
                obtain ⟨L, hL⟩ : ∃ L, line ++ List.replicate j 32 = L := ⟨_, rfl⟩
                have hLl : L.length = line.length + j := by rw [← hL]; simp
                rw [hL] at hri
                replace hL := Lib.hid hL
                have hj0 : Hid (j ≤ q + 1 - line.length) := Lib.hid hj
                clear hj
                replace hLl := Lib.hid hLl
                obtain ⟨_, A2, c2, rfl⟩ := obytes_len hri
                by_cases hcq : L.length ≤ q
                · have g5 : decide ((L.length : Int) ≤ (q : Int)) = true := decide_eq_true (by omega)
                  have hri0 := Lib.hid hri
                  have hbiz := hbi.size
                  clear hri
                  go_wp2_with (at_builtin; refine wpList_append_own _ rfl _ _ 22 rfl w2.heap.size 5 i0 _ 1 1 Try.underlying22 hi hz0 hz1 hz2 rfl (by decide) _ _ _ rfl (hri0.out.alloc _) ⟨wi.heap.size, 0, none⟩ 1 1 [.int .u8 32] rfl rfl ?a1 ?b1 ?c1 ?d1 ?e1 ?_)
                  case a1 =>
                    intro j u hj
                    match j, hj with
                    | 0, hj => cases hj; exact cell_new (by simp [Addr.add]) rfl
                    | j + 1, hj => simp at hj
                  case b1 =>
                    intro u hu
                    simp only [List.mem_cons, List.not_mem_nil, or_false] at hu
                    rcases hu with rfl; rfl
                  case c1 => unfold maxLen; omega
                  case d1 => omega
                  case e1 =>
                    simp
                    omega
                  intro v2 wj hown hgr hnil
                  have hgr2 := grown_trans (grown_below (below_a1 wi _) _) hgr
                  have hrow2 : Hid (OBytes wj w2.heap.size v2 (line ++ List.replicate (j + 1) 32)) := Lib.hid (by rw [← pad_more line (q + 1) j (by have := hLl.out; omega), hL.out]; show wj.ownsRow _ _ _ _ (L ++ [32]).length _; rw [map_snoc, List.length_append]; exact hown)
                  have hb2 := Lib.hid (hbi.grown hgr2 hbiz (fun j hj => owns_ge2 hri0.out hj))
                  have hlv2 : Hid (lenV v2 = L.length + 1) := Lib.hid (by rw [(obytes_len hrow2.out).1]; have := hLl.out; simp; omega)
                  clear hown hgr hnil hgr2
                  go_wp2
                  go_roundw
                  case rel => exact ⟨j + 1, hb2.out, hrow2.out, by have := hLl.out; omega⟩
                  case measure => rw [show lenV (Value.slice A2 L.length c2) = L.length from rfl]; simp [hlv2.out]; omega
                · have g5 : decide ((L.length : Int) ≤ (q : Int)) = false := decide_eq_false (by omega)
                  have hP : L = pad line (q + 1) := by rw [← hL.out]; exact pad_full line (q + 1) j (by have := hLl.out; omega) hj0.out
                  rw [← hP] at hclash hon
                  have hLb : Hid (L.length ≤ 151) := Lib.hid (by rw [hP, pad_length]; omega)
                  clear hP
                  obtain ⟨g, cap, hv, hbg, hgl, hcell, hfz, hset⟩ := obytes_at hri (by omega)
                  obtain ⟨rfl, rfl⟩ : A2 = some ⟨g, 0, none⟩ ∧ c2 = cap := by simpa using hv
                  have hqL : q < L.length := by omega
                  have hqi : (q : Int) < (L.length : Int) := by omega
                  have hq0 : (0 : Int) ≤ (q : Int) := Int.natCast_nonneg _
                  have k0 := hcell q L[q] (List.getElem?_eq_getElem hqL)
                  have z0 := hfz q
                  clear hv hcell hfz
                  have t0 := (hbi.cell (p := ⟨bb, off + k * 2, none⟩) hbk).trans c0
                  have t1 := (hbi.cell (p := ⟨bb, off + k * 2 + 1, none⟩) hbk).trans c1
                  have hbkw : bb < wi.heap.size := Nat.lt_of_lt_of_le hbk hbi.size
                  by_cases h32 : L[q] = 32
                  · replace k0 : wi.cell? ⟨g, q, none⟩ = some (.int .u8 32) := by rw [k0, h32]; rfl
                    have hnx : Hid (p = lineGo ⟨left, right, bell⟩ (L.set q (byte0 x.letter)) (xs.drop (k + 1))) := Lib.hid (by rw [he.out]; exact hon.out (by rw [List.getElem?_eq_getElem hqL, h32]))
                    have hst := Lib.hid (hset q (byte0 x.letter) hqL)
                    have hby := byte0_at x2
                    have hbs := Lib.hid (hbi.setCell (p := ⟨g, q, none⟩) hbg (.int .u8 ((byte0 x.letter).toNat : Int)))
                    clear h32 hset hri
                    go_wp2
                    go_roundw
                    case rel => exact ⟨k + 1, L.set q (byte0 x.letter), by omega, by go_num, hbs.out, hst.out, by rw [List.length_set]; exact hLb.out, hnx.out⟩
                    case measure => simp [intOf]; omega
                  · have hne32 : ((L[q].toNat : Int) != 32) = true := ne32 h32
                    have hr : Hid (p = ([], 9)) := Lib.hid (by rw [he.out]; exact hclash.out (by rw [List.getElem?_eq_getElem hqL]; intro e; exact h32 (by simpa using e)))
                    replace hri := Lib.hid hri
                    clear h32 hset
                    go_wp2
                    go_ret2
                    obtain rfl := hN.out
                    exact ⟨by rw [hr.out]; rfl, hbb.out.step hbi⟩
        · obtain rfl : k = n := by omega
          have hr : Hid (p = (line, 0)) := Lib.hid (by rw [he.out, lineGo_end hS2.1])
          obtain ⟨_, Av, cv, rfl⟩ := obytes_len hrow
          have hcv2 := obytes_conv hrow
          replace hrow := Lib.hid hrow
          go_wp2
          go_ret2
          obtain rfl := hN.out
          exact ⟨by rw [hr.out]; rfl, hbb.out.step hbw⟩
end Go.Proofs.Ytphhpmnigchooaa
