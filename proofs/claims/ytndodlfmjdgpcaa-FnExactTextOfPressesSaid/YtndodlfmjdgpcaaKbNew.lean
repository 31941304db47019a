/- The program's keyboard: made from keys and accents, and told as valid just if they are. -/
import Derived.Test.YtndodlfmjdgpcaaKbAcc
namespace Go.Proofs.Ytndodlfmjdgpcaa
open Go.RowKit Go.ChangeMaps Go.MapKept
set_option linter.unusedVariables false
set_option linter.unusedSimpArgs false

theorem okKey_two (S : List (ByteArray × SpotD)) (x : KeyD) (p : SpotD) : okKey S x = (((look x.low S).isNone && isLet x.low) && ((look x.high (S ++ [(x.low, p)])).isNone && isLet x.high)) := by
  unfold okKey
  rw [look_append]
  by_cases h : x.low = x.high
  · rw [decide_eq_true h]
    simp [look, h]
  · have h' : ¬ x.high = x.low := fun e => h e.symm
    rw [decide_eq_false h]
    simp [look, h']
    cases isLet x.low <;> cases isLet x.high <;> cases look x.low S <;> cases look x.high S <;> rfl

theorem frozen_grown {wr w1 : World} {R r1 : Nat} {x y z : Obj} (h : ∀ o, wr.frozen? ⟨R, o, none⟩ = false) (hR : R < wr.heap.size) (hg : (((wr.alloc x).alloc y).alloc z).grownBy w1 (some r1)) (hne : R ≠ r1) (o : Nat) : w1.frozen? ⟨R, o, none⟩ = false :=
  ((World.frozen?_of_block (hg.block R (by simp; omega) (by simpa using hne))).trans ((below_a3 wr x y z).frozen (p := ⟨R, o, none⟩) hR)).trans (h o)

theorem frozen_kept {wr w1 : World} {R a b : Nat} {x : Obj} (h : ∀ o, wr.frozen? ⟨R, o, none⟩ = false) (hR : R < wr.heap.size) (hg : Kept2 a b (wr.alloc x) w1) (hna : R ≠ a) (hnb : R ≠ b) (o : Nat) : w1.frozen? ⟨R, o, none⟩ = false :=
  ((World.frozen?_of_block (hg.block R (by simp; omega) hna hnb)).trans ((below_a1 wr x).frozen (p := ⟨R, o, none⟩) hR)).trans (h o)
theorem kept_set3 {w : World} {R : Nat} {a b c : Value} : Kept2 R R w (((w.setCell ⟨R, 0, none⟩ a).setCell ⟨R, 1, none⟩ b).setCell ⟨R, 2, none⟩ c) :=
  ⟨rfl, rfl, rfl, by simp [World.setCell], fun k hk h1 _ => by rw [Below.heap_setCell _ _ _ _ h1, Below.heap_setCell _ _ _ _ h1, Below.heap_setCell _ _ _ _ h1]⟩
theorem take_snoc {α : Type} {l : List α} {k : Nat} {x : α} (hx : l[k]? = some x) : l.take (k + 1) = l.take k ++ [x] := by
  obtain ⟨h1, rfl⟩ := List.getElem?_eq_some_iff.1 hx
  exact List.take_succ_eq_append_getElem h1

theorem set3 {w : World} {R : Nat} {v0 v1 v2 a b c : Value} (L0 : w.cell? ⟨R, 0, none⟩ = some v0) (L1 : w.cell? ⟨R, 1, none⟩ = some v1) (L2 : w.cell? ⟨R, 2, none⟩ = some v2) :
    (((w.setCell ⟨R, 0, none⟩ a).setCell ⟨R, 1, none⟩ b).setCell ⟨R, 2, none⟩ c).cell? ⟨R, 0, none⟩ = some a ∧ (((w.setCell ⟨R, 0, none⟩ a).setCell ⟨R, 1, none⟩ b).setCell ⟨R, 2, none⟩ c).cell? ⟨R, 1, none⟩ = some b ∧ (((w.setCell ⟨R, 0, none⟩ a).setCell ⟨R, 1, none⟩ b).setCell ⟨R, 2, none⟩ c).cell? ⟨R, 2, none⟩ = some c := by
  have d01 : (⟨R, 0, none⟩ : Addr) ≠ ⟨R, 1, none⟩ := fun e => by cases e
  have d02 : (⟨R, 0, none⟩ : Addr) ≠ ⟨R, 2, none⟩ := fun e => by cases e
  have d12 : (⟨R, 1, none⟩ : Addr) ≠ ⟨R, 2, none⟩ := fun e => by cases e
  refine ⟨?_, ?_, ?_⟩
  · rw [World.cell?_setCell_other _ _ _ _ d02.symm, World.cell?_setCell_other _ _ _ _ d01.symm]
    exact World.cell?_setCell_same _ _ _ L0
  · rw [World.cell?_setCell_other _ _ _ _ d12.symm]
    exact World.cell?_setCell_same _ _ _ ((World.cell?_setCell_other _ _ _ _ d01).trans L1)
  · exact World.cell?_setCell_same _ _ _ ((World.cell?_setCell_other _ _ _ _ d12).trans ((World.cell?_setCell_other _ _ _ _ d02).trans L2))
theorem kb_start (w : World) (t : TypeId) (wl : World) (r1 r2 r3 q : Nat)
    (hwl : (((((w.alloc (.cells #[.map none, .map none, .map none] t)).alloc (.map #[] 0)).alloc (.map #[] 0)).alloc (.map #[] 0)).alloc (.cells #[.map (some (w.heap.size + 1)), .map (some (w.heap.size + 1 + 1)), .map (some (w.heap.size + 1 + 1 + 1))] t)) = wl)
    (h1 : w.heap.size + 1 = r1) (h2 : w.heap.size + 1 + 1 = r2) (h3 : w.heap.size + 1 + 1 + 1 = r3) (hq : w.heap.size + 1 + 1 + 1 + 1 = q) :
    Below w.heap.size w wl ∧ MapIs Value.string wl r1 (spotL []) ∧ MapIs pairKey wl r2 (madeL []) ∧ MapIs Value.string wl r3 (overL []) ∧
    (wl.cell? ⟨q, 0, none⟩ = some (.map (some r1)) ∧ wl.cell? ⟨q, 1, none⟩ = some (.map (some r2)) ∧ wl.cell? ⟨q, 2, none⟩ = some (.map (some r3))) ∧
    ((∃ u, wl.cell? ⟨w.heap.size, 0, none⟩ = some u) ∧ (∃ u, wl.cell? ⟨w.heap.size, 1, none⟩ = some u) ∧ (∃ u, wl.cell? ⟨w.heap.size, 2, none⟩ = some u)) ∧ (∀ o, wl.frozen? ⟨w.heap.size, o, none⟩ = false) ∧ wl.heap.size = q + 1 := by
  subst hwl h1 h2 h3 hq
  have hsz (x : World) (o : Obj) : (x.alloc o).heap.size = x.heap.size + 1 := by simp
  refine ⟨((below_a3 w _ _ _).alloc (by simp; omega) _).alloc (by simp; omega) _, ?_, ?_, ?_, ⟨cell_new (by simp) rfl, cell_new (by simp) rfl, cell_new (by simp) rfl⟩, ⟨⟨.map none, ?_⟩, ⟨.map none, ?_⟩, ⟨.map none, ?_⟩⟩, ?_, by simp⟩
  · have := MapIs.made (enc := Value.string) (w.alloc (.cells #[.map none, .map none, .map none] t))
    rw [hsz] at this
    exact ((this.on _).on _).on _
  · have := MapIs.made (enc := pairKey) ((w.alloc (.cells #[.map none, .map none, .map none] t)).alloc (.map #[] 0))
    rw [hsz, hsz] at this
    exact (this.on _).on _
  · have := MapIs.made (enc := Value.string) (((w.alloc (.cells #[.map none, .map none, .map none] t)).alloc (.map #[] 0)).alloc (.map #[] 0))
    rw [hsz, hsz, hsz] at this
    exact this.on _
  · exact cell_on (cell_on (cell_on (cell_on (cell_new rfl rfl) _) _) _) _
  · exact cell_on (cell_on (cell_on (cell_on (cell_new rfl rfl) _) _) _) _
  · exact cell_on (cell_on (cell_on (cell_on (cell_new rfl rfl) _) _) _) _
  · intro o
    have hb : (((((w.alloc (.cells #[.map none, .map none, .map none] t)).alloc (.map #[] 0)).alloc (.map #[] 0)).alloc (.map #[] 0)).alloc (.cells #[.map (some (w.heap.size + 1)), .map (some (w.heap.size + 1 + 1)), .map (some (w.heap.size + 1 + 1 + 1))] t)).heap[w.heap.size]? = some (.cells #[.map none, .map none, .map none] t) := by
      rw [Below.heap_alloc _ _ _ (by simp; omega), Below.heap_alloc _ _ _ (by simp; omega), Below.heap_alloc _ _ _ (by simp; omega), Below.heap_alloc _ _ _ (by simp), heap_alloc_new]
    simp [World.frozen?, hb]

set_option maxRecDepth 100000 in
set_option maxHeartbeats 1600000 in
theorem new_kb_yes (A B : Option Addr) (n c m d : Nat) (ks : List KeyD) (as_ : List AccentD) (w : World) (h : Keys w A n ks) (hAs : Accents w B m as_) (hn : n ≤ 1048576) (hm : m ≤ 1048576) (hgk : ∀ x ∈ ks, x.good) (hga : ∀ x ∈ as_, x.good)
    (v : Bool) (hv : validKb ks as_ = v) :
    Calls Try.prog 64 #[.slice A n c, .slice B m d] w fun e w' => Below w.heap.size w w' ∧ ∃ x1 x2 x3, e = .returned (.tuple #[.agg #[.map x1, .map x2, .map x3], .bool v]) ∧
      (v = true → ∃ r1 r2 r3, x1 = some r1 ∧ x2 = some r2 ∧ x3 = some r3 ∧ MapIs Value.string w' r1 (spotL (spots 0 ks)) ∧ MapIs pairKey w' r2 (madeL as_) ∧ MapIs Value.string w' r3 (overL as_)) := by
  by_cases hn40 : (40 : Int) < (n : Int)
  · have hres : Hid (v = false) := Lib.hid (by
      rw [← hv]
      unfold validKb
      rw [decide_eq_false (show ¬ ks.length ≤ 40 by rw [h.1]; omega)]
      simp)
    have g1 : decide ((40 : Int) < (n : Int)) = true := decide_eq_true hn40
    go_enter Try.func64, Try.ntmps64
    go_wp2
    refine bodyPost_ret (v := .tuple #[.agg #[.map none, .map none, .map none], .bool false]) (by simp [results, Try.results64, go_sem]) rfl ?_
    exact ⟨below_a1 _ _, none, none, none, by rw [hres.out], fun e => by rw [hres.out] at e; cases e⟩
  · by_cases hm20 : (20 : Int) < (m : Int)
    · have hres : Hid (v = false) := Lib.hid (by
        rw [← hv]
        unfold validKb
        rw [decide_eq_false (show ¬ as_.length ≤ 20 by rw [hAs.1]; omega)]
        simp)
      have g1 : decide ((40 : Int) < (n : Int)) = false := decide_eq_false hn40
      have g2 : decide ((20 : Int) < (m : Int)) = true := decide_eq_true hm20
      go_enter Try.func64, Try.ntmps64
      go_wp2
      refine bodyPost_ret (v := .tuple #[.agg #[.map none, .map none, .map none], .bool false]) (by simp [results, Try.results64, go_sem]) rfl ?_
      exact ⟨below_a1 _ _, none, none, none, by rw [hres.out], fun e => by rw [hres.out] at e; cases e⟩
    · have hmm := @run_makeMap Try.prog
      have g1 : decide ((40 : Int) < (n : Int)) = false := decide_eq_false hn40
      have g2 : decide ((20 : Int) < (m : Int)) = false := decide_eq_false hm20
      go_enter Try.func64, Try.ntmps64
      go_wp2
      generalize hwl : (((((w.alloc (.cells #[.map none, .map none, .map none] 99)).alloc (.map #[] 0)).alloc (.map #[] 0)).alloc (.map #[] 0)).alloc (.cells #[.map (some (w.heap.size + 1)), .map (some (w.heap.size + 1 + 1)), .map (some (w.heap.size + 1 + 1 + 1))] 99)) = wl
      generalize hq : w.heap.size + 1 + 1 + 1 + 1 = q
      generalize hr3 : w.heap.size + 1 + 1 + 1 = r3
      generalize hr2 : w.heap.size + 1 + 1 = r2
      generalize hr1 : w.heap.size + 1 = r1
      obtain ⟨hbl, m1, m2, m3, ⟨q0, q1, q2⟩, ⟨⟨v0, R0⟩, ⟨v1, R1⟩, ⟨v2, R2⟩⟩, hf, hsz⟩ := kb_start w _ wl r1 r2 r3 q hwl hr1 hr2 hr3 hq
      replace m1 := Lib.hid m1
      replace m2 := Lib.hid m2
      replace m3 := Lib.hid m3
      replace hv := Lib.hid hv
      generalize hR : w.heap.size = R at *
      clear hwl hmm
      have n1 : R < r1 := by omega
      have n2 : r1 < r2 := by omega
      have n3 : r2 < r3 := by omega
      have n4 : r3 < q := by omega
      clear hq hr3 hr2 hr1
      go_loopw [28] (fun i wr => ∃ k : Nat, k ≤ n ∧ i = .int .i64 k ∧ wl.grownBy wr (some r1) ∧ MapIs Value.string wr r1 (spotL (spots 0 (ks.take k))) ∧ okKeys 0 [] ks = okKeys k (ks.take k) (ks.drop k)) (fun i _ => n - (intOf i).toNat)
      case atStart => exact ⟨0, by omega, rfl, ⟨rfl, rfl, rfl, Nat.le_refl _, fun _ _ _ => rfl⟩, m1.out, rfl⟩
      case round =>
        obtain ⟨k, hk, rfl, hgr, hmr, he⟩ := hrel
        replace he := Lib.hid he
        replace hmr := Lib.hid hmr
        have hbr : Below R w wr := hbl.grown hgr (by omega) (fun j hj => by cases hj; omega)
        have hKr : Keys wr A n ks := h.keep hbr.size fun p hp => hbr.cell (hR ▸ hp)
        have p0 : wr.cell? ⟨q, 0, none⟩ = some (.map (some r1)) := hgr.cell q0 (by simp; omega)
        have p1 : wr.cell? ⟨q, 1, none⟩ = some (.map (some r2)) := hgr.cell q1 (by simp; omega)
        have p2 : wr.cell? ⟨q, 2, none⟩ = some (.map (some r3)) := hgr.cell q2 (by simp; omega)
        have T0 : wr.cell? ⟨R, 0, none⟩ = some v0 := hgr.cell R0 (by simp; omega)
        have T1 : wr.cell? ⟨R, 1, none⟩ = some v1 := hgr.cell R1 (by simp; omega)
        have T2 : wr.cell? ⟨R, 2, none⟩ = some v2 := hgr.cell R2 (by simp; omega)
        have hqs : q < wr.heap.size := Nat.lt_of_lt_of_le (by omega) hgr.size
        have hqs1 : q < wr.heap.size + 1 := by omega
        have hqs2 : q < wr.heap.size + 1 + 1 := by omega
        have fr : ∀ o, wr.frozen? ⟨R, o, none⟩ = false := fun o => (World.frozen?_of_block (hgr.block R (by omega) (by simp; omega))).trans (hf o)
        replace fr := Lib.hid fr
        by_cases hlt : k < n
        · obtain ⟨b, off, x, rfl, hb, hx, c0, c1, c2⟩ := key_at hKr hlt
          have hgx := hgk x (List.mem_of_getElem? hx.out)
          have hgl : x.low.size ≤ maxLen := hgx.1
          have hgh : x.high.size ≤ maxLen := hgx.2
          have hk0 : (0 : Int) ≤ (k : Int) := Int.natCast_nonneg _
          have hk1 : (k : Int) < (n : Int) := by omega
          cases hv1 : ((look x.low (spots 0 (ks.take k))).isNone && isLet x.low) with
          | false =>
            have hres : Hid (v = false) := Lib.hid (by rw [← hv.out]; exact valid_no he.out hx.out (by rw [okKey_two _ _ ⟨0, false, false⟩, hv1, Bool.false_and]))
            replace hv1 := Lib.hid hv1
            go_wp2_with fail
            refine (addLetter_any r1 r2 r3 x.low ⟨k, false, x.dead⟩ (spots 0 (ks.take k)) false hv1.out _ hgl (by repeat (first | exact hmr.out | refine MapIs.on ?_ _))).mono ?_
            rintro e w1 ⟨rfl, hg1, hm1⟩
            have L0 : w1.cell? ⟨R, 0, none⟩ = some v0 := hg1.cell (cell_on (cell_on (cell_on T0 _) _) _) (by simp; omega)
            have L1 : w1.cell? ⟨R, 1, none⟩ = some v1 := hg1.cell (cell_on (cell_on (cell_on T1 _) _) _) (by simp; omega)
            have L2 : w1.cell? ⟨R, 2, none⟩ = some v2 := hg1.cell (cell_on (cell_on (cell_on T2 _) _) _) (by simp; omega)
            have F0 := frozen_grown fr.out (show R < wr.heap.size by omega) hg1 (show R ≠ r1 by omega) 0
            have F1 := frozen_grown fr.out (show R < wr.heap.size by omega) hg1 (show R ≠ r1 by omega) 1
            have F2 := frozen_grown fr.out (show R < wr.heap.size by omega) hg1 (show R ≠ r1 by omega) 2
            go_wp2
            obtain ⟨z0, z1, z2⟩ := set3 (a := .map none) (b := .map none) (c := .map none) L0 L1 L2
            have hbz : Below R w (((w1.setCell ⟨R, 0, none⟩ (.map none)).setCell ⟨R, 1, none⟩ (.map none)).setCell ⟨R, 2, none⟩ (.map none)) := (((Below.grown (((hbr.alloc (by omega) _).alloc (by simp; omega) _).alloc (by simp; omega) _) hg1 (by simp; omega) (fun j hj => by cases hj; omega)).setCell (Nat.le_refl _) _).setCell (Nat.le_refl _) _).setCell (Nat.le_refl _) _
            generalize (((w1.setCell ⟨R, 0, none⟩ (.map none)).setCell ⟨R, 1, none⟩ (.map none)).setCell ⟨R, 2, none⟩ (.map none)) = wz at *
            refine bodyPost_ret (v := .tuple #[.agg #[.map none, .map none, .map none], .bool false]) (by simp [results, Try.results64, go_sem, z0, z1, z2]) rfl ?_
            subst hR
            exact ⟨hbz, none, none, none, by rw [hres.out], fun e => by rw [hres.out] at e; cases e⟩
          | true =>
            replace hv1 := Lib.hid hv1
            cases hv2 : ((look x.high (spots 0 (ks.take k) ++ [(x.low, ⟨k, false, x.dead⟩)])).isNone && isLet x.high) with
            | false =>
              have hres : Hid (v = false) := Lib.hid (by rw [← hv.out]; exact valid_no he.out hx.out (by rw [okKey_two _ _ ⟨k, false, x.dead⟩, hv2, Bool.and_false]))
              replace hv2 := Lib.hid hv2
              go_wp2_with fail
              refine (addLetter_any r1 r2 r3 x.low ⟨k, false, x.dead⟩ (spots 0 (ks.take k)) true hv1.out _ hgl (by repeat (first | exact hmr.out | refine MapIs.on ?_ _))).mono ?_
              rintro e w1 ⟨rfl, hg1, hm1⟩
              have p0' : w1.cell? ⟨q, 0, none⟩ = some (.map (some r1)) := hg1.cell (cell_on (cell_on (cell_on p0 _) _) _) (by simp; omega)
              have p1' : w1.cell? ⟨q, 1, none⟩ = some (.map (some r2)) := hg1.cell (cell_on (cell_on (cell_on p1 _) _) _) (by simp; omega)
              have p2' : w1.cell? ⟨q, 2, none⟩ = some (.map (some r3)) := hg1.cell (cell_on (cell_on (cell_on p2 _) _) _) (by simp; omega)
              have k1' : w1.cell? ⟨wr.heap.size, 1, none⟩ = some (.string x.high) := hg1.cell (cell_on (cell_on (cell_new rfl rfl) _) _) (by simp; omega)
              have k2' : w1.cell? ⟨wr.heap.size, 2, none⟩ = some (.bool x.dead) := hg1.cell (cell_on (cell_on (cell_new rfl rfl) _) _) (by simp; omega)
              have s0' : w1.cell? ⟨wr.heap.size + 1 + 1, 0, none⟩ = some (.int .i64 (k : Int)) := hg1.cell (cell_new (by simp) rfl) (by simp; omega)
              have s1' : w1.cell? ⟨wr.heap.size + 1 + 1, 1, none⟩ = some (.bool true) := hg1.cell (cell_new (by simp) rfl) (by simp; omega)
              replace hm1 := Lib.hid hm1
              go_wp2_with fail
              refine (addLetter_any r1 r2 r3 x.high ⟨k, true, x.dead⟩ _ false hv2.out _ hgh hm1.out).mono ?_
              rintro e w2 ⟨rfl, hg2, hm2⟩
              have hg12 := hg1.trans hg2
              have L0 : w2.cell? ⟨R, 0, none⟩ = some v0 := hg12.cell (cell_on (cell_on (cell_on T0 _) _) _) (by simp; omega)
              have L1 : w2.cell? ⟨R, 1, none⟩ = some v1 := hg12.cell (cell_on (cell_on (cell_on T1 _) _) _) (by simp; omega)
              have L2 : w2.cell? ⟨R, 2, none⟩ = some v2 := hg12.cell (cell_on (cell_on (cell_on T2 _) _) _) (by simp; omega)
              have F0 := frozen_grown fr.out (show R < wr.heap.size by omega) hg12 (show R ≠ r1 by omega) 0
              have F1 := frozen_grown fr.out (show R < wr.heap.size by omega) hg12 (show R ≠ r1 by omega) 1
              have F2 := frozen_grown fr.out (show R < wr.heap.size by omega) hg12 (show R ≠ r1 by omega) 2
              go_wp2
              obtain ⟨z0, z1, z2⟩ := set3 (a := .map none) (b := .map none) (c := .map none) L0 L1 L2
              have hbz : Below R w (((w2.setCell ⟨R, 0, none⟩ (.map none)).setCell ⟨R, 1, none⟩ (.map none)).setCell ⟨R, 2, none⟩ (.map none)) := (((Below.grown (((hbr.alloc (by omega) _).alloc (by simp; omega) _).alloc (by simp; omega) _) hg12 (by simp; omega) (fun j hj => by cases hj; omega)).setCell (Nat.le_refl _) _).setCell (Nat.le_refl _) _).setCell (Nat.le_refl _) _
              generalize (((w2.setCell ⟨R, 0, none⟩ (.map none)).setCell ⟨R, 1, none⟩ (.map none)).setCell ⟨R, 2, none⟩ (.map none)) = wz at *
              refine bodyPost_ret (v := .tuple #[.agg #[.map none, .map none, .map none], .bool false]) (by simp [results, Try.results64, go_sem, z0, z1, z2]) rfl ?_
              subst hR
              exact ⟨hbz, none, none, none, by rw [hres.out], fun e => by rw [hres.out] at e; cases e⟩
            | true =>
              have hok : okKey (spots 0 (ks.take k)) x = true := by rw [okKey_two _ _ ⟨k, false, x.dead⟩, hv1.out, hv2]; rfl
              have hnext := Lib.hid (valid_next he.out hx.out hok)
              clear hok
              replace hv2 := Lib.hid hv2
              go_wp2_with fail
              refine (addLetter_any r1 r2 r3 x.low ⟨k, false, x.dead⟩ (spots 0 (ks.take k)) true hv1.out _ hgl (by repeat (first | exact hmr.out | refine MapIs.on ?_ _))).mono ?_
              rintro e w1 ⟨rfl, hg1, hm1⟩
              have p0' : w1.cell? ⟨q, 0, none⟩ = some (.map (some r1)) := hg1.cell (cell_on (cell_on (cell_on p0 _) _) _) (by simp; omega)
              have p1' : w1.cell? ⟨q, 1, none⟩ = some (.map (some r2)) := hg1.cell (cell_on (cell_on (cell_on p1 _) _) _) (by simp; omega)
              have p2' : w1.cell? ⟨q, 2, none⟩ = some (.map (some r3)) := hg1.cell (cell_on (cell_on (cell_on p2 _) _) _) (by simp; omega)
              have k1' : w1.cell? ⟨wr.heap.size, 1, none⟩ = some (.string x.high) := hg1.cell (cell_on (cell_on (cell_new rfl rfl) _) _) (by simp; omega)
              have k2' : w1.cell? ⟨wr.heap.size, 2, none⟩ = some (.bool x.dead) := hg1.cell (cell_on (cell_on (cell_new rfl rfl) _) _) (by simp; omega)
              have s0' : w1.cell? ⟨wr.heap.size + 1 + 1, 0, none⟩ = some (.int .i64 (k : Int)) := hg1.cell (cell_new (by simp) rfl) (by simp; omega)
              have s1' : w1.cell? ⟨wr.heap.size + 1 + 1, 1, none⟩ = some (.bool true) := hg1.cell (cell_new (by simp) rfl) (by simp; omega)
              replace hm1 := Lib.hid hm1
              go_wp2_with fail
              refine (addLetter_any r1 r2 r3 x.high ⟨k, true, x.dead⟩ _ true hv2.out _ hgh hm1.out).mono ?_
              rintro e w2 ⟨rfl, hg2, hm2⟩
              have hg12 := hg1.trans hg2
              replace hm2 : Hid (MapIs Value.string w2 r1 (spotL (spots 0 (ks.take (k + 1))))) := Lib.hid (by rw [spots_take hx.out]; simpa [keySpots] using hm2)
              have hgz : wl.grownBy w2 (some r1) := hgr.trans ((grown_of (below_a3 _ _ _ _) _).trans hg12)
              go_wp2
              go_roundw
              case rel => exact ⟨k + 1, by omega, by go_num, hgz, hm2.out, hnext.out⟩
              case measure => simp [intOf]; omega
        · obtain rfl : k = n := by omega
          have hok : Hid (okKeys 0 [] ks = true) := Lib.hid (by rw [he.out]; exact okKeys_end (by rw [h.1]; exact Nat.le_refl _))
          have hT : ks.take k = ks := List.take_of_length_le (by rw [h.1]; exact Nat.le_refl _)
          have M1 : MapIs Value.string wr r1 (spotL (spots 0 ks)) := by have := hmr.out; rwa [hT] at this
          have M2 : MapIs pairKey wr r2 (madeL []) := m2.out.grown hgr (by omega)
          have M3 : MapIs Value.string wr r3 (overL []) := m3.out.grown hgr (by omega)
          replace M1 := Lib.hid M1
          replace M2 := Lib.hid M2
          replace M3 := Lib.hid M3
          clear hmr m1 m2 m3 hT q0 q1 q2 R0 R1 R2 hf hqs1 hqs2 hlt
          rename World => wa
          go_wp2
          go_loopw [61] (fun i wq => ∃ j : Nat, j ≤ m ∧ i = .int .i64 j ∧ Kept2 r2 r3 wa wq ∧ MapIs Value.string wq r1 (spotL (spots 0 ks)) ∧ MapIs pairKey wq r2 (madeL (as_.take j)) ∧ MapIs Value.string wq r3 (overL (as_.take j)) ∧ okAccs (spots 0 ks) [] as_ = okAccs (spots 0 ks) (as_.take j) (as_.drop j)) (fun i _ => m - (intOf i).toNat)
          case atStart => exact ⟨0, by omega, rfl, Kept2.refl _ _ _, M1.out, M2.out, M3.out, rfl⟩
          case round =>
            rename World => wq
            obtain ⟨j, hj, rfl, hgq, N1, N2, N3, ha⟩ := hrel
            replace ha := Lib.hid ha
            replace N1 := Lib.hid N1
            replace N2 := Lib.hid N2
            replace N3 := Lib.hid N3
            have hbq : Below R w wq := Kept2.below hbr hgq (by omega) (by omega) (by omega)
            have hAq : Accents wq B m as_ := hAs.keep hbq.size fun p hp => hbq.cell (hR ▸ hp)
            have P0 : wq.cell? ⟨q, 0, none⟩ = some (.map (some r1)) := hgq.cell p0 (by simp; omega) (by simp; omega)
            have P1 : wq.cell? ⟨q, 1, none⟩ = some (.map (some r2)) := hgq.cell p1 (by simp; omega) (by simp; omega)
            have P2 : wq.cell? ⟨q, 2, none⟩ = some (.map (some r3)) := hgq.cell p2 (by simp; omega) (by simp; omega)
            have U0 : wq.cell? ⟨R, 0, none⟩ = some v0 := hgq.cell T0 (by simp; omega) (by simp; omega)
            have U1 : wq.cell? ⟨R, 1, none⟩ = some v1 := hgq.cell T1 (by simp; omega) (by simp; omega)
            have U2 : wq.cell? ⟨R, 2, none⟩ = some v2 := hgq.cell T2 (by simp; omega) (by simp; omega)
            have hqs3 : q < wq.heap.size := Nat.lt_of_lt_of_le hqs hgq.size
            have fq : ∀ o, wq.frozen? ⟨R, o, none⟩ = false := fun o => (World.frozen?_of_block (hgq.block R (by omega) (by omega) (by omega))).trans (fr.out o)
            replace fq := Lib.hid fq
            by_cases hlm : j < m
            · obtain ⟨b, off, x, rfl, hb, hx, c0, c1, c2⟩ := accent_at hAq hlm
              have hgx := hga x (List.mem_of_getElem? hx.out)
              have hgm : x.made.size ≤ maxLen := hgx.2.2
              have hj0 : (0 : Int) ≤ (j : Int) := Int.natCast_nonneg _
              have hj1 : (j : Int) < (m : Int) := by omega
              cases hv1 : (okAcc (spots 0 ks) x && (as_.take j).all fun b => !clash b x) with
              | false =>
                have hres : Hid (v = false) := Lib.hid (by
                  rw [← hv.out]
                  rw [Bool.and_eq_false_iff] at hv1
                  rcases hv1 with h1 | h1
                  · exact acc_no ha.out hx.out h1
                  · exact acc_clash ha.out hx.out h1)
                replace hv1 := Lib.hid hv1
                go_wp2_with fail
                refine (addAccent_any r1 r2 r3 x (spots 0 ks) (as_.take j) false _ hgm (N1.out.on _) (N2.out.on _) (N3.out.on _) (by omega) (by omega) (by omega) hv1.out).mono ?_
                rintro e w1 ⟨rfl, hg1, hm1, hm2, hm3⟩
                have L0 : w1.cell? ⟨R, 0, none⟩ = some v0 := hg1.cell (cell_on U0 _) (by simp; omega) (by simp; omega)
                have L1 : w1.cell? ⟨R, 1, none⟩ = some v1 := hg1.cell (cell_on U1 _) (by simp; omega) (by simp; omega)
                have L2 : w1.cell? ⟨R, 2, none⟩ = some v2 := hg1.cell (cell_on U2 _) (by simp; omega) (by simp; omega)
                have F0 := frozen_kept fq.out (show R < wq.heap.size by omega) hg1 (show R ≠ r2 by omega) (show R ≠ r3 by omega) 0
                have F1 := frozen_kept fq.out (show R < wq.heap.size by omega) hg1 (show R ≠ r2 by omega) (show R ≠ r3 by omega) 1
                have F2 := frozen_kept fq.out (show R < wq.heap.size by omega) hg1 (show R ≠ r2 by omega) (show R ≠ r3 by omega) 2
                go_wp2
                obtain ⟨z0, z1, z2⟩ := set3 (a := .map none) (b := .map none) (c := .map none) L0 L1 L2
                have hbz : Below R w (((w1.setCell ⟨R, 0, none⟩ (.map none)).setCell ⟨R, 1, none⟩ (.map none)).setCell ⟨R, 2, none⟩ (.map none)) := (((Kept2.below (hbq.alloc (by omega) _) hg1 (by simp; omega) (by omega) (by omega)).setCell (Nat.le_refl _) _).setCell (Nat.le_refl _) _).setCell (Nat.le_refl _) _
                generalize (((w1.setCell ⟨R, 0, none⟩ (.map none)).setCell ⟨R, 1, none⟩ (.map none)).setCell ⟨R, 2, none⟩ (.map none)) = wz at *
                refine bodyPost_ret (v := .tuple #[.agg #[.map none, .map none, .map none], .bool false]) (by simp [results, Try.results64, go_sem, z0, z1, z2]) rfl ?_
                subst hR
                exact ⟨hbz, none, none, none, by rw [hres.out], fun e => by rw [hres.out] at e; cases e⟩
              | true =>
                have hv1' := hv1
                rw [Bool.and_eq_true] at hv1'
                have hnext := Lib.hid (acc_next ha.out hx.out hv1'.1 hv1'.2)
                clear hv1'
                replace hv1 := Lib.hid hv1
                go_wp2_with fail
                refine (addAccent_any r1 r2 r3 x (spots 0 ks) (as_.take j) true _ hgm (N1.out.on _) (N2.out.on _) (N3.out.on _) (by omega) (by omega) (by omega) hv1.out).mono ?_
                rintro e w1 ⟨rfl, hg1, hm1, hm2, hm3⟩
                have hgz : Kept2 r2 r3 wa w1 := hgq.trans ((Kept2.of (below_a1 _ _)).trans hg1)
                rw [if_pos rfl] at hm2 hm3
                rw [← take_snoc hx.out] at hm2 hm3
                replace hm1 := Lib.hid hm1
                replace hm2 := Lib.hid hm2
                replace hm3 := Lib.hid hm3
                go_wp2
                go_roundw
                case rel => exact ⟨j + 1, by omega, by go_num, hgz, hm1.out, hm2.out, hm3.out, hnext.out⟩
                case measure => simp [intOf]; omega
            · obtain rfl : j = m := by omega
              have hacc : okAccs (spots 0 ks) [] as_ = true := by rw [ha.out]; exact okAccs_end (by rw [hAs.1]; exact Nat.le_refl _)
              have hres : Hid (v = true) := Lib.hid (by
                rw [← hv.out, valid_end hok.out hacc, h.1, hAs.1, decide_eq_true (by omega), decide_eq_true (by omega)]
                rfl)
              have hT : as_.take j = as_ := List.take_of_length_le (by rw [hAs.1]; exact Nat.le_refl _)
              rw [hT] at N2 N3
              have L0 := U0
              have L1 := U1
              have L2 := U2
              have F0 := fq.out 0
              have F1 := fq.out 1
              have F2 := fq.out 2
              clear hacc hT
              go_wp2
              obtain ⟨z0, z1, z2⟩ := set3 (a := .map (some r1)) (b := .map (some r2)) (c := .map (some r3)) L0 L1 L2
              have hk3 : Kept2 R R wq (((wq.setCell ⟨R, 0, none⟩ (.map (some r1))).setCell ⟨R, 1, none⟩ (.map (some r2))).setCell ⟨R, 2, none⟩ (.map (some r3))) := kept_set3
              have hbz : Below R w (((wq.setCell ⟨R, 0, none⟩ (.map (some r1))).setCell ⟨R, 1, none⟩ (.map (some r2))).setCell ⟨R, 2, none⟩ (.map (some r3))) := ((hbq.setCell (Nat.le_refl _) _).setCell (Nat.le_refl _) _).setCell (Nat.le_refl _) _
              generalize (((wq.setCell ⟨R, 0, none⟩ (.map (some r1))).setCell ⟨R, 1, none⟩ (.map (some r2))).setCell ⟨R, 2, none⟩ (.map (some r3))) = wz at *
              refine bodyPost_ret (v := .tuple #[.agg #[.map (some r1), .map (some r2), .map (some r3)], .bool true]) (by simp [results, Try.results64, go_sem, z0, z1, z2]) rfl ?_
              subst hR
              exact ⟨hbz, some r1, some r2, some r3, by rw [hres.out], fun _ => ⟨r1, r2, r3, rfl, rfl, rfl, N1.out.block (hk3.block _ N1.out.lt (by omega) (by omega)), N2.out.block (hk3.block _ N2.out.lt (by omega) (by omega)), N3.out.block (hk3.block _ N3.out.lt (by omega) (by omega))⟩⟩

/-- Keys and accents that are not valid. -/
theorem kb_no (A B : Option Addr) (n c m d : Nat) (ks : List KeyD) (as_ : List AccentD) (w : World) (h : Keys w A n ks) (hAs : Accents w B m as_) (hn : n ≤ 1048576) (hm : m ≤ 1048576) (hgk : ∀ x ∈ ks, x.good) (hga : ∀ x ∈ as_, x.good) (hv : validKb ks as_ = false) :
    Calls Try.prog 64 #[.slice A n c, .slice B m d] w fun e w' => ∃ x1 x2 x3, e = .returned (.tuple #[.agg #[.map x1, .map x2, .map x3], .bool false]) ∧ Below w.heap.size w w' :=
  (new_kb_yes A B n c m d ks as_ w h hAs hn hm hgk hga false hv).mono fun e w' ⟨hb, x1, x2, x3, he, _⟩ => ⟨x1, x2, x3, he, hb⟩
/-- The keyboard of valid keys and accents. -/
def KbIs (w : World) (r1 r2 r3 : Nat) (ks : List KeyD) (as_ : List AccentD) : Prop := MapIs Value.string w r1 (spotL (spots 0 ks)) ∧ MapIs pairKey w r2 (madeL as_) ∧ MapIs Value.string w r3 (overL as_)
theorem kb_yes (A B : Option Addr) (n c m d : Nat) (ks : List KeyD) (as_ : List AccentD) (w : World) (h : Keys w A n ks) (hAs : Accents w B m as_) (hn : n ≤ 1048576) (hm : m ≤ 1048576) (hgk : ∀ x ∈ ks, x.good) (hga : ∀ x ∈ as_, x.good) (hv : validKb ks as_ = true) :
    Calls Try.prog 64 #[.slice A n c, .slice B m d] w fun e w' => ∃ r1 r2 r3, e = .returned (.tuple #[.agg #[.map (some r1), .map (some r2), .map (some r3)], .bool true]) ∧ Below w.heap.size w w' ∧ KbIs w' r1 r2 r3 ks as_ :=
  (new_kb_yes A B n c m d ks as_ w h hAs hn hm hgk hga true hv).mono fun e w' ⟨hb, x1, x2, x3, he, hy⟩ => by
    obtain ⟨r1, r2, r3, rfl, rfl, rfl, h1, h2, h3⟩ := hy rfl
    exact ⟨r1, r2, r3, he, hb, h1, h2, h3⟩
theorem KbIs.below {w w' : World} {r1 r2 r3 : Nat} {ks : List KeyD} {as_ : List AccentD} (h : KbIs w r1 r2 r3 ks as_) (hb : Below w.heap.size w w') : KbIs w' r1 r2 r3 ks as_ := ⟨h.1.below hb h.1.lt, h.2.1.below hb h.2.1.lt, h.2.2.below hb h.2.2.lt⟩
end Go.Proofs.Ytndodlfmjdgpcaa
