/- A plan of exchanges: the model's walk. -/
import Derived.Test.YticggclpaalhgaaPln0
import Derived.Deep.AppendLies
namespace Go.Proofs.Yticggclpaalhgaa
open Go.RowKit Go.ChangeShapes Go.WideShapes Go.Deep
set_option linter.unusedVariables false
set_option linter.unusedSimpArgs false

/-- Between the rounds: the box R of the layout in hand, its rows X, the plan L so far. -/
structure PlW (w0 wr : World) (R n : Nat) (V : Value) (A : Option Addr) (c : Nat) (L X : List ByteArray) : Prop where
  bel : Below w0.heap.size w0 wr
  box : wr.heap[R]? = some (.cells #[.slice A n c] 27 (0, 0))
  boxN : w0.heap.size ≤ R
  row : OStrs wr w0.heap.size A n X
  out : wr.ownsRow w0.heap.size 9 1 V L.length (L.flatMap strC)
  apR : ∀ p, A = some p → p.block ≠ R
  apO : ∀ p g, A = some p → V.ownBlock = some g → p.block ≠ g
theorem PlW.below {w0 wr w' : World} {R n : Nat} {V : Value} {A : Option Addr} {c : Nat} {L X : List ByteArray} (h : PlW w0 wr R n V A c L X) (hb : Below wr.heap.size wr w') : PlW w0 w' R n V A c L X :=
  ⟨h.bel.trans (hb.mono h.bel.size), (hb.block R (Array.getElem?_eq_some_iff.1 h.box).1).trans h.box, h.boxN, h.row.below hb, own_block6 h.out (fun g hg' => hb.block g (own_lt6 h.out hg')), h.apR, h.apO⟩
/-- The next layout is laid into the box. -/
theorem PlW.store {w0 wr : World} {R n : Nat} {V : Value} {A A' : Option Addr} {c c' : Nat} {L X X' : List ByteArray} (h : PlW w0 wr R n V A c L X) {base : Nat} (hb : ∀ g, V.ownBlock = some g → g < base) (hR : R < base) (h0 : w0.heap.size ≤ base) (hrow : OStrs wr base A' n X') : 
    PlW w0 (wr.setCell ⟨R, 0, none⟩ (.slice A' n c')) R n V A' c' L X' := by
  have hne : ∀ k : Nat, k ≠ R → (wr.setCell ⟨R, 0, none⟩ (.slice A' n c')).heap[k]? = wr.heap[k]? := fun k hk => Below.heap_setCell _ _ _ _ hk
  refine ⟨h.bel.trans (Below.setCell (Below.refl _ _) (p := ⟨R, 0, none⟩) h.boxN _), ?_, h.boxN, (hrow.mono h0).block (fun p hp => hne _ ?_), own_block6 h.out (fun g hg => hne g (row_apart h.out h.box g hg)), ?_, ?_⟩
  · simp [World.setCell, Array.getElem?_modify, h.box]
  · have := hrow.own p hp; omega
  · intro p hp; have := hrow.own p hp; omega
  · intro p g hp hg; have := hrow.own p hp; have := hb g hg; omega
/-- The plan grows, and nothing else. -/
theorem PlW.push {w0 wr w4 : World} {R n : Nat} {V V' : Value} {A : Option Addr} {c : Nat} {L L' X : List ByteArray} (h : PlW w0 wr R n V A c L X) (hg : wr.grownBy w4 V.ownBlock) {g' : Nat} (hV : V'.ownBlock = some g') (hlie : V.ownBlock = some g' ∨ g' = wr.heap.size)
    (hrow : w4.ownsRow w0.heap.size 9 1 V' L'.length (L'.flatMap strC)) : PlW w0 w4 R n V' A c L' X := by
  have hge : ∀ g, V.ownBlock = some g → w0.heap.size ≤ g := fun g hg' => own_ge6 h.out hg'
  have hap := row_apart h.out h.box
  refine ⟨Below.grown h.bel hg h.bel.size hge, (hg.block R (Array.getElem?_eq_some_iff.1 h.box).1 (fun e => hap R e.symm rfl)).trans h.box, h.boxN, h.row.block (fun p hp => hg.block _ (h.row.lt p hp) (fun e => h.apO p _ hp e.symm rfl)), hrow, h.apR, ?_⟩
  intro p g hp hgv
  rw [hV] at hgv
  cases hgv
  rcases hlie with e | e
  · exact h.apO p _ hp e
  · have := h.row.lt p hp; omega
/-- A plan that is returned. -/
def PlOut (l : List ByteArray) (w : World) (e : Ending) (w' : World) : Prop := ∃ A n c, e = .returned (.slice A n c) ∧ n = l.length ∧ OStrs w' w.heap.size A n l ∧ Below w.heap.size w w'
theorem strC_len : ∀ l : List ByteArray, (l.flatMap strC).length = l.length
  | [] => rfl
  | x :: l => by simp only [List.flatMap_cons, List.length_append, strC_len l, List.length_cons]; simp [strC]; omega
set_option maxRecDepth 100000 in
set_option maxHeartbeats 3200000 in
theorem plan_spec (Ra Rb : Nat) (A B : Option Addr) (n c d : Nat) (xs ys : List ByteArray) (w : World) (hR : w.cell? ⟨Ra, 0, none⟩ = some (.slice A n c)) (hS : w.cell? ⟨Rb, 0, none⟩ = some (.slice B n d)) (h : Strs w A n xs) (g : Strs w B n ys) (hn1 : 1 ≤ n) (hn : n ≤ 1048576) (hsh : xs.map (·.size) = ys.map (·.size)) (hs : ∀ y ∈ ys, y.size ≤ 1048576) (hf : (flat6 ys).length ≤ 1048576) :
    Calls Try.prog 64 #[.pointer (some ⟨Ra, 0, none⟩), .pointer (some ⟨Rb, 0, none⟩)] w (PlOut (planAt (flat6 xs) (flat6 ys) (flat6 ys).length).2 w) := by
  have hl := Lib.hid h.1
  have hRl : Ra < w.heap.size := World.block_lt_of_cell? _ _ hR
  have hSl : Rb < w.heap.size := World.block_lt_of_cell? _ _ hS
  obtain ⟨i0, hi, hz0, hz1, hz2⟩ := info_parts Try.infoStr
  obtain ⟨bk, off, s0, rfl, hb0, hx0, c0⟩ := str_at h (by omega : 0 < n)
  have hbel := Lib.hid (below_a2 w (.cells #[] 9) (.cells #[] 9))
  have hm2 : ((w.alloc (.cells #[] 9)).alloc (.cells #[] 9)).cell? ⟨Ra, 0, none⟩ = some (.slice (some ⟨bk, off, none⟩) n c) := cell_on (cell_on hR _) _
  have hnews : Hid (∀ (j : Nat) u, (xs.flatMap strC)[j]? = some u → ((w.alloc (.cells #[] 9)).alloc (.cells #[] 9)).cell? ((⟨bk, off, none⟩ : Addr).add j) = some u) := Lib.hid (by
    intro j u hu
    have hj : j < n := by
      have := (List.getElem?_eq_some_iff.1 hu).1
      rwa [strC_len, hl.out] at this
    obtain ⟨b', o', x, e, _, hx, hc⟩ := str_at h hj
    cases e
    have := flat_at (size := 1) (cells := strC) (fun _ => rfl) xs j x 0 _ hx.out rfl
    rw [Nat.mul_one, Nat.add_zero, hu] at this
    cases this
    rw [show (⟨bk, off, none⟩ : Addr).add j = ⟨bk, off + j, none⟩ by unfold Addr.add; split <;> simp_all]
    exact cell_on (cell_on hc _) _)
  have hrow0 := Lib.hid (strs_empty (w.alloc (.cells #[] 9)) (w.heap.size) (by simp))
  rw [show (w.alloc (.cells #[] 9)).heap.size = w.heap.size + 1 by simp] at hrow0
  go_enter Try.func64, Try.ntmps64
  go_wp2_with (at_builtin; refine wpList_append_lies _ rfl _ _ 22 rfl w.heap.size 9 i0 _ 1 16 Try.underlying22 hi hz0 hz1 hz2 rfl (by decide) _ _ _ rfl hrow0.out ⟨bk, off, none⟩ n c (xs.flatMap strC) rfl ?a1 hnews.out ?b1 ?c1 ?d1 ?e1 ?f1 _ rfl ?_)
  case a1 => have := strC_len xs; rw [hl.out] at this; simpa using this
  case b1 => intro u x hx hu; simp only [strC, List.mem_cons, List.not_mem_nil, or_false] at hu; subst hu; rfl
  case c1 => omega
  case d1 => unfold maxLen; omega
  case e1 => omega
  case f1 => omega
  intro g0 cap w3 hown3 hgr3 hlie hlt3
  have hM0 : PlW w (w3.alloc (.cells #[.slice (some ⟨g0, 0, none⟩) n cap] 27)) w3.heap.size n (.slice (some ⟨w.heap.size, 0, none⟩) 0 0) (some ⟨g0, 0, none⟩) cap [] xs := by
    have hs2 : ((w.alloc (.cells #[] 9)).alloc (.cells #[] 9)).heap.size = w.heap.size + 2 := by simp
    have hs3 := hgr3.size
    have hg0 : w.heap.size + 1 ≤ g0 := by
      rcases hlie with e | e
      · simp [Value.ownBlock] at e; omega
      · omega
    have hb3 : Below w.heap.size w w3 := Below.grown hbel.out hgr3 (by omega) (fun q hq => by simp [Value.ownBlock] at hq; omega)
    have e0 := strs_empty w w.heap.size (Nat.le_refl _)
    have e1 : w3.ownsRow w.heap.size 9 1 (.slice (some ⟨w.heap.size, 0, none⟩) 0 0) 0 [] := own_block6 e0 (fun g hg => by
      simp [Value.ownBlock] at hg
      subst hg
      refine (hgr3.block w.heap.size (by omega) (by simp [Value.ownBlock])).trans ?_
      rw [Below.heap_alloc _ _ _ (by simp)])
    have e2 : OStrs w3 w.heap.size (some ⟨g0, 0, none⟩) n xs := by
      obtain ⟨A9, c9, e9, h9⟩ := str_row (l := xs) (n := n) hl.out (by simpa using hown3)
      cases e9
      exact h9
    have hbo := below_a1 w3 (.cells #[.slice (some ⟨g0, 0, none⟩) n cap] 27)
    refine ⟨hb3.trans (hbo.mono (by omega)), heap_alloc_new _ _, by omega, e2.below hbo, own_block6 e1 (fun g hg => hbo.block g (own_lt6 e1 hg)), ?_, ?_⟩
    · intro p hp; cases hp; simp only; omega
    · intro p g hp hg; cases hp; simp [Value.ownBlock] at hg; simp only; omega
  replace hM0 := Lib.hid hM0
  clear hown3 hgr3 hnews hrow0
  go_wp2
  generalize (w3.alloc (.cells #[.slice (some ⟨g0, 0, none⟩) n cap] 27)) = wa at *
  generalize w3.heap.size = R at *
  generalize (.slice (some ⟨w.heap.size, 0, none⟩) 0 0 : Value) = V0 at *
  generalize (some ⟨g0, 0, none⟩ : Option Addr) = A0 at *
  have hbA := Lib.hid hs
  replace hs := hbA
  clear hbA
  have hly := Lib.hid g.1
  go_loopw [5, 7, 8, 9, 10] (fun V i _ _ _ wr => ∃ (r : Nat) (A : Option Addr) (c' : Nat) (X : List ByteArray), r ≤ n ∧ i = .int .i64 r ∧ PlnX xs ys X (flat6 (ys.take r)).length ∧ PlW w wr R n V A c' (planAt (flat6 xs) (flat6 ys) (flat6 (ys.take r)).length).2 X) (fun _ i _ _ _ _ => n - (intOf i).toNat)
  case atStart => exact ⟨0, A0, cap, xs, by omega, rfl, PlnX.zero hsh, hM0.out⟩
  case round =>
    rename World => wr
    obtain ⟨r, A, c', X, hr, rfl, hX, hM⟩ := hrel
    replace hM := Lib.hid hM
    have m0 := (hM.out.bel.cell (p := ⟨Rb, 0, none⟩) hSl).trans hS
    by_cases hlt : r < n
    · obtain ⟨bb, oo, t, rfl, hbb, hy, d0⟩ := str_at (g.below hM.out.bel) hlt
      have hr0 : (0 : Int) ≤ (r : Int) := Int.natCast_nonneg _
      have hr1 : (r : Int) < (n : Int) := by omega
      have htz : t.size ≤ 1048576 := hs.out t (List.mem_of_getElem? hy.out)
      go_wp2
      go_loopw [5, 8, 9, 10] (fun V j _ _ wq => ∃ (q : Nat) (A : Option Addr) (c' : Nat) (X : List ByteArray), q ≤ t.size ∧ j = .int .i64 (q : Int) ∧ PlnX xs ys X ((flat6 (ys.take r)).length + q) ∧ PlW w wq R n V A c' (planAt (flat6 xs) (flat6 ys) ((flat6 (ys.take r)).length + q)).2 X) (fun _ j _ _ _ => t.size - (intOf j).toNat)
      case atStart => exact ⟨0, A, c', X, by omega, rfl, hX, hM.out⟩
      case round =>
        rename World => wq
        obtain ⟨q, A, c', X, hq, rfl, hX, hM⟩ := hrel
        replace hM := Lib.hid hM
        have m1 := (hM.out.bel.cell (p := ⟨Rb, 0, none⟩) hSl).trans hS
        obtain ⟨_, _, t1, e1, _, hy1, d1⟩ := str_at (g.below hM.out.bel) hlt
        cases e1
        obtain rfl : t1 = t := by have h1 := hy1.out; rw [hy.out] at h1; exact (Option.some.inj h1).symm
        clear hy1 m0 d0
        by_cases hlt2 : q < t1.size
        · obtain ⟨t2, u, v, ht2, hu, hv, hsz, hk1, hk2⟩ := hX.at hy.out hlt2
          have hlt3 : q < t2.size := by omega
          have hu2 := bytes_at t2 hlt3
          rw [hu] at hu2
          have hu3 := Option.some.inj hu2
          have hv2 := bytes_at t1 hlt2
          rw [hv] at hv2
          have hv3 := Option.some.inj hv2
          clear hu2 hv2
          obtain ⟨bx, ox, t3, rfl, _, hx3, c3⟩ := str_at hM.out.row.srow hlt
          obtain rfl : t3 = t2 := by have h1 := hx3.out; rw [ht2] at h1; exact (Option.some.inj h1).symm
          have mo := own_cell (o := 0) hM.out.box rfl
          have mf := own_frozen hM.out.box 0
          have hq0 : (0 : Int) ≤ (q : Int) := Int.natCast_nonneg _
          have hq1 : (q : Int) < (t1.size : Int) := by omega
          have hq2 : (q : Int) < (t3.size : Int) := by omega
          by_cases heq : u = v
          · have hpl := Lib.hid (planAt_same hk1 (heq ▸ hk2))
            have hX' := Lib.hid (hX.same hk1 (heq ▸ hk2))
            have ge : (((t3[q]'hlt3).toNat : Int) == ((t1[q]'hlt2).toNat : Int)) = true := by rw [← hu3, ← hv3, heq]; exact beq_self_eq_true _
            have ge' : (((t3[q]'hlt3).toNat : Int) != ((t1[q]'hlt2).toNat : Int)) = false := by rw [← hu3, ← hv3, heq]; simp
            clear heq hk1 hk2 hu hv hu3 hv3 hX
            go_wp2
            go_roundw
            case rel => exact ⟨q + 1, _, c', X, by omega, by go_num, hX'.out, by rw [← Nat.add_assoc, hpl.out]; exact hM.out⟩
            case measure => simp [intOf]; omega
          · have hpl := Lib.hid (planAt_chg hk1 hk2 heq)
            have hX' := Lib.hid (hX.chg hk1 hk2 heq)
            have ge : (((t3[q]'hlt3).toNat : Int) == ((t1[q]'hlt2).toNat : Int)) = false := beq_eq_false_iff_ne.2 (fun e => heq (by rw [hu3, hv3]; exact UInt8.toNat_inj.1 (by omega)))
            have ge' : (((t3[q]'hlt3).toNat : Int) != ((t1[q]'hlt2).toNat : Int)) = true := by
              have : ¬ (((t3[q]'hlt3).toNat : Int) = ((t1[q]'hlt2).toNat : Int)) := fun e => heq (by rw [hu3, hv3]; exact UInt8.toNat_inj.1 (by omega))
              simp [this]
            have hss : ∀ x ∈ X, x.size ≤ 1048576 := fun x hx => by
              have h1 : x.size ∈ X.map (·.size) := List.mem_map.2 ⟨x, hx, rfl⟩
              rw [hX.shape] at h1
              obtain ⟨y, hy1, hy2⟩ := List.mem_map.1 h1
              have := hs.out y hy1
              omega
            have hcall := Lib.hid (chg_spec R _ n c' X (t3[q]'hlt3) (t1[q]'hlt2) wq mo hM.out.row.srow hn hss)
            subst hu3 hv3
            have hLb : Hid ((planAt (flat6 xs) (flat6 ys) ((flat6 (ys.take r)).length + q)).2.length ≤ 1048576) := Lib.hid (by
              have h1 := planAt_out (flat6 xs) (flat6 ys) ((flat6 (ys.take r)).length + q)
              have h2 := (List.getElem?_eq_some_iff.1 hk2).1
              omega)
            clear heq hk1 hk2 hu hv hX hss
            go_wp2_with fail
            refine hcall.out.mono ?_
            rintro e w1 ⟨A', n', c5, rfl, hn', hO, hb1⟩
            obtain rfl : n' = n := by
              have h1 := hO.srow.1
              have h2 := hM.out.row.srow.1
              rw [List.length_map] at h1
              omega
            have hV0 := fun g (hg : u5.ownBlock = some g) => own_lt6 hM.out.out hg
            have hR0 : R < wq.heap.size := World.block_lt_of_cell? _ _ mo
            have hst := Lib.hid ((hM.out.below hb1).store (c' := c5) hV0 hR0 hM.out.bel.size hO)
            have mo2 := own_cell (o := 0) (hM.out.below hb1).box rfl
            have mf2 := own_frozen (hM.out.below hb1).box 0
            have hs9 : (w1.setCell ⟨R, 0, none⟩ (.slice A' n' c5)).heap.size = w1.heap.size := by simp
            have hblk := heap_alloc_new (w1.setCell ⟨R, 0, none⟩ (.slice A' n' c5)) (.cells #[.int .u8 ((t3[q]'hlt3).toNat : Int), .int .u8 ((t1[q]'hlt2).toNat : Int)] 5)
            rw [hs9] at hblk
            have hback := run_convert_bytes_back (P := Try.prog) ((w1.setCell ⟨R, 0, none⟩ (.slice A' n' c5)).alloc (.cells #[.int .u8 ((t3[q]'hlt3).toNat : Int), .int .u8 ((t1[q]'hlt2).toNat : Int)] 5)) 81 9 5 ⟨w1.heap.size, 0, none⟩ 2 [t3[q]'hlt3, t1[q]'hlt2] Try.underlying81 Try.underlying5 Try.underlying9 (fun j hj => by
              have h2 : j < 2 := hj
              match j, h2 with
              | 0, _ => exact World.news_of_block hblk 0 _ rfl
              | 1, _ => exact World.news_of_block hblk 1 _ rfl)
            rw [show [t3[q]'hlt3, t1[q]'hlt2].length = 2 from rfl, show (⟨[t3[q]'hlt3, t1[q]'hlt2].toArray⟩ : ByteArray) = ⟨#[t3[q]'hlt3, t1[q]'hlt2]⟩ from rfl] at hback
            have hst2 := Lib.hid (hst.out.below (below_a2 (w1.setCell ⟨R, 0, none⟩ (.slice A' n' c5)) (.cells #[.int .u8 ((t3[q]'hlt3).toNat : Int), .int .u8 ((t1[q]'hlt2).toNat : Int)] 5) (.cells #[.string ⟨#[t3[q]'hlt3, t1[q]'hlt2]⟩] 9)))
            have hnew : Hid (∀ (j : Nat) u, [Value.string ⟨#[t3[q]'hlt3, t1[q]'hlt2]⟩][j]? = some u → (((w1.setCell ⟨R, 0, none⟩ (.slice A' n' c5)).alloc (.cells #[.int .u8 ((t3[q]'hlt3).toNat : Int), .int .u8 ((t1[q]'hlt2).toNat : Int)] 5)).alloc (.cells #[.string ⟨#[t3[q]'hlt3, t1[q]'hlt2]⟩] 9)).cell? ((⟨w1.heap.size + 1, 0, none⟩ : Addr).add j) = some u) := Lib.hid (by
              have hb2 := heap_alloc_new ((w1.setCell ⟨R, 0, none⟩ (.slice A' n' c5)).alloc (.cells #[.int .u8 ((t3[q]'hlt3).toNat : Int), .int .u8 ((t1[q]'hlt2).toNat : Int)] 5)) (.cells #[.string ⟨#[t3[q]'hlt3, t1[q]'hlt2]⟩] 9)
              rw [show ((w1.setCell ⟨R, 0, none⟩ (.slice A' n' c5)).alloc (.cells #[.int .u8 ((t3[q]'hlt3).toNat : Int), .int .u8 ((t1[q]'hlt2).toNat : Int)] 5)).heap.size = w1.heap.size + 1 by simp] at hb2
              exact World.news_of_block hb2)
            have hwb := hM.out.bel.size
            have hb1s := hb1.size
            clear hV0 hR0 hO hb1 mo mf c3 d1 m1 hblk
            go_wp2_with (at_builtin; refine wpList_append_lies _ rfl _ _ 22 rfl w.heap.size 9 i0 _ 1 16 Try.underlying22 hi hz0 hz1 hz2 rfl (by decide) _ _ _ rfl hst2.out.out ⟨w1.heap.size + 1, 0, none⟩ 1 1 [.string ⟨#[t3[q]'hlt3, t1[q]'hlt2]⟩] rfl rfl hnew.out ?b2 (by decide) ?d2 ?e2 ?f2 _ rfl ?_)
            case b2 => intro x hx; simp only [List.mem_cons, List.not_mem_nil, or_false] at hx; subst hx; rfl
            case d2 => have := hLb.out; unfold maxLen; omega
            case e2 => have := hLb.out; omega
            case f2 => simp only [World.size_alloc, hs9]; omega
            intro g9 cap9 w4 hown4 hgr4 hlie4 hlt4
            have hpush := Lib.hid (hst2.out.push (V' := .slice (some ⟨g9, 0, none⟩) ((planAt (flat6 xs) (flat6 ys) ((flat6 (ys.take r)).length + q)).2.length + 1) cap9) (L' := (planAt (flat6 xs) (flat6 ys) ((flat6 (ys.take r)).length + q)).2 ++ [⟨#[t3[q]'hlt3, t1[q]'hlt2]⟩]) hgr4 rfl (hlie4.imp id (fun e => e.trans (by simp))) (by rw [str_snoc, List.length_append]; exact hown4))
            clear hown4 hgr4 hlie4 hlt4 hst2 hst hnew hback
            go_wp2
            go_roundw
            case rel => exact ⟨q + 1, A', c5, _, by omega, by go_num, hX'.out, by rw [← Nat.add_assoc, hpl.out]; exact hpush.out⟩
            case measure => simp [intOf]; omega
        · obtain rfl : q = t1.size := by omega
          have hst := Lib.hid (flat6_step hy.out)
          go_wp2
          go_roundw
          case rel => exact ⟨r + 1, A, c', X, by omega, by go_num, by rw [hst.out]; exact hX, by rw [hst.out]; exact hM.out⟩
          case measure => simp [intOf]; omega
    · obtain rfl : r = n := by omega
      have htk : Hid (ys.take r = ys) := Lib.hid (List.take_of_length_le (by rw [hly.out]; exact Nat.le_refl _))
      rw [htk.out] at hM
      obtain ⟨A9, c9, rfl, hO⟩ := str_row rfl hM.out.out
      have hO := Lib.hid hO
      have hb9 := Lib.hid hM.out.bel
      go_wp2
      refine bodyPost_ret (v := .slice A9 _ c9) (by simp [results, Try.results64, go_sem]; rfl) rfl ?_
      exact ⟨A9, _, c9, rfl, rfl, hO.out, hb9.out⟩
end Go.Proofs.Yticggclpaalhgaa
