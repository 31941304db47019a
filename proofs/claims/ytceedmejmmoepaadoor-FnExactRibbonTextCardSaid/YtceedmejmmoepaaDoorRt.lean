/- Ribbons: RibbonText, by the model and by the program, and the law as one call. -/
import Derived.Test.YtceedmejmmoepaaDoorRb1
import Derived.Test.YtceedmejmmoepaaDoorRc1
import Derived.Test.YtceedmejmmoepaaDoorDecLaw
import Derived.Lib.ItoaLen
import Derived.Test.YtceedmejmmoepaaDoorRibO
namespace Go.Proofs.YtceedmejmmoepaaDoor
open Go.RowKit Go.ChangeShapes Go.WideShapes Go.Deep
set_option linter.unusedVariables false
set_option linter.unusedSimpArgs false

def itB (n : Int) : ByteArray := ⟨(Lib.itoa n).toArray⟩
def spA : ByteArray := ⟨#[32, 115, 112, 111, 116, 115, 32, 111, 102, 32]⟩
def lsA : ByteArray := ⟨#[32, 108, 101, 115, 115, 32]⟩
def rtA (r : RibbonD) : ByteArray := if rbB r = true then itB r.spots ++ spA ++ itB r.ink ++ lsA ++ itB r.takes else ByteArray.empty
theorem itB_size (n : Int) (h0 : 0 ≤ n) (h1 : n ≤ 1000) : (itB n).size ≤ 21 := by
  have := Lib.itoa_length_le n (by omega) (by omega)
  simpa [itB, ByteArray.size] using this
set_option maxRecDepth 100000 in
set_option maxHeartbeats 2400000 in
theorem rt14_spec (r : RibbonD) (w : World) :
    Calls Tryd.prog 19 #[.agg #[.int .i64 r.spots, .int .i64 r.ink, .int .i64 r.takes]] w fun e w' => e = .returned (.string (rtA r)) ∧ Below w.heap.size w w' := by
  cases h1 : rbB r with
  | false =>
    have hr : Hid (rtA r = ByteArray.empty) := Lib.hid (by rw [rtA, h1]; rfl)
    have hc := Lib.hid (fun W => ok14 r h1 W)
    generalize rtA r = q at *
    clear h1
    obtain ⟨S, I, Z⟩ := r
    go_enter Tryd.func19, Tryd.ntmps19
    go_wp2_with fail
    refine (hc.out _).mono ?_
    rintro e w1 ⟨rfl, hb1⟩
    go_wp2
    go_ret
    exact ⟨by rw [hr.out]; rfl, (below_a1 _ _).step hb1⟩
  | true =>
    have hr : Hid (rtA r = itB r.spots ++ spA ++ itB r.ink ++ lsA ++ itB r.takes) := Lib.hid (by rw [rtA, if_pos h1])
    have hc := Lib.hid (fun W => ok14 r h1 W)
    obtain ⟨⟨c0, c1⟩, ⟨d0, d1⟩, f0, f1⟩ := rbB_iff.1 h1
    have s1 := itB_size r.spots (by omega) (by omega)
    have s2 := itB_size r.ink (by omega) (by omega)
    have s3 := itB_size r.takes (by omega) (by omega)
    generalize rtA r = q at *
    clear h1
    obtain ⟨S, I, Z⟩ := r
    simp only at *
    generalize hX1 : itB S = X1 at *
    generalize hX2 : itB I = X2 at *
    generalize hX3 : itB Z = X3 at *
    replace s1 : (X1.size : Int) ≤ 21 := by omega
    replace s2 : (X2.size : Int) ≤ 21 := by omega
    replace s3 : (X3.size : Int) ≤ 21 := by omega
    have k1 : ¬ 9223372036854775807 < X1.size + 10 := by omega
    have k2 : ¬ 9223372036854775807 < X1.size + 10 + X2.size := by omega
    have k3 : ¬ 9223372036854775807 < X1.size + 10 + X2.size + 6 := by omega
    have k4 : ¬ 9223372036854775807 < X1.size + 10 + X2.size + 6 + X3.size := by omega
    go_enter Tryd.func19, Tryd.ntmps19
    go_wp2_with fail
    refine (hc.out _).mono ?_
    rintro e w1 ⟨rfl, hb1⟩
    obtain ⟨q0, q1, q2⟩ := (Box3r.new w _ (.int .i64 S) (.int .i64 I) (.int .i64 Z)).step hb1
    have hbz := Lib.hid ((below_a1 w _).step hb1)
    clear hb1
    go_wp2_with fail
    refine wp_region_held_drew (S := fun w' => Below w.heap.size w w' ∧ w'.cell? ⟨w.heap.size, 0, none⟩ = some (.int .i64 S) ∧ w'.cell? ⟨w.heap.size, 1, none⟩ = some (.int .i64 I) ∧ w'.cell? ⟨w.heap.size, 2, none⟩ = some (.int .i64 Z)) (by kernel_rfl) ?_ (fun hHeld => ?_)
    · exact ⟨hbz.out.drew, q0, q1, q2⟩
    refine wpAnyH_take (i := 0) (v := ?vrt14_specU1_0) rfl (by kernel_rfl) (by kernel_rfl) (by kernel_rfl) (fun _ _ _ h => h) (Or.inl ⟨rfl, ?yrt14_specU1_0⟩) (by assumption) ?_
    case yrt14_specU1_0 => (intro w hSw; (try dsimp only at hSw); go_simp; first | done | with_reducible rfl)
    simp only [List.getElem_toArray, List.getElem_cons_succ, List.getElem_cons_zero, Act.put, List.setIfInBounds_toArray, List.set_cons_zero, List.set_cons_succ]
    refine wpAnyH_take (i := 1) (v := ?vrt14_specU1_1) rfl (by kernel_rfl) (by kernel_rfl) (by kernel_rfl) (fun _ _ _ h => h) (Or.inl ⟨rfl, ?yrt14_specU1_1⟩) (by assumption) ?_
    case yrt14_specU1_1 => (intro w hSw; (try dsimp only at hSw); go_simp; first | done | with_reducible rfl)
    simp only [List.getElem_toArray, List.getElem_cons_succ, List.getElem_cons_zero, Act.put, List.setIfInBounds_toArray, List.set_cons_zero, List.set_cons_succ]
    refine wpAnyH_take (i := 4) (v := ?vrt14_specU1_4) rfl (by kernel_rfl) (by kernel_rfl) (by kernel_rfl) (fun _ _ _ h => h) (Or.inl ⟨rfl, ?yrt14_specU1_4⟩) (by assumption) ?_
    case yrt14_specU1_4 => (intro w hSw; (try dsimp only at hSw); go_simp; first | done | with_reducible rfl)
    simp only [List.getElem_toArray, List.getElem_cons_succ, List.getElem_cons_zero, Act.put, List.setIfInBounds_toArray, List.set_cons_zero, List.set_cons_succ]
    refine wpAnyH_take (i := 5) (v := ?vrt14_specU1_5) rfl (by kernel_rfl) (by kernel_rfl) (by kernel_rfl) (fun _ _ _ h => h) (Or.inl ⟨rfl, ?yrt14_specU1_5⟩) (by assumption) ?_
    case yrt14_specU1_5 => (intro w hSw; (try dsimp only at hSw); go_simp; first | done | with_reducible rfl)
    simp only [List.getElem_toArray, List.getElem_cons_succ, List.getElem_cons_zero, Act.put, List.setIfInBounds_toArray, List.set_cons_zero, List.set_cons_succ]
    refine wpAnyH_take (i := 9) (v := ?vrt14_specU1_9) rfl (by kernel_rfl) (by kernel_rfl) (by kernel_rfl) (fun _ _ _ h => h) (Or.inl ⟨rfl, ?yrt14_specU1_9⟩) (by assumption) ?_
    case yrt14_specU1_9 => (intro w hSw; (try dsimp only at hSw); go_simp; first | done | with_reducible rfl)
    simp only [List.getElem_toArray, List.getElem_cons_succ, List.getElem_cons_zero, Act.put, List.setIfInBounds_toArray, List.set_cons_zero, List.set_cons_succ]
    refine wpAnyH_take (i := 10) (v := ?vrt14_specU1_10) rfl (by kernel_rfl) (by kernel_rfl) (by kernel_rfl) (fun _ _ _ h => h) (Or.inl ⟨rfl, ?yrt14_specU1_10⟩) (by assumption) ?_
    case yrt14_specU1_10 => (intro w hSw; (try dsimp only at hSw); go_simp; first | done | with_reducible rfl)
    simp only [List.getElem_toArray, List.getElem_cons_succ, List.getElem_cons_zero, Act.put, List.setIfInBounds_toArray, List.set_cons_zero, List.set_cons_succ]
    refine wpAnyH_ready (rs := [2]) (by kernel_rfl) (by simp) ?_
    refine AllReadyH.cons rfl (fun K hK => ?_) AllReadyH.nil
    go_simp
    refine (dec_any S (by omega) (by omega) _).mono ?_
    rintro e u1 ⟨hv0, hv1⟩
    have hv0' : e = .returned (.string X1) := by rw [hv0, ← hX1]; rfl
    subst hv0'
    clear hv0
    go_wp2_with fail
    refine hK.out _ _ ?_ (fun hHeld => ?_)
    · exact ⟨hHeld.1.step hv1, cell_step hHeld.2.1 hv1, cell_step hHeld.2.2.1 hv1, cell_step hHeld.2.2.2 hv1⟩
    clear hK K
    try simp only [List.getElem_toArray, List.getElem_cons_succ, List.getElem_cons_zero, Act.put, List.setIfInBounds_toArray, List.set_cons_zero, List.set_cons_succ]
    refine wpAnyH_take (i := 3) (v := ?vrt14_specU1_3) rfl (by kernel_rfl) (by kernel_rfl) (by kernel_rfl) (fun _ _ _ h => h) (Or.inl ⟨rfl, ?yrt14_specU1_3⟩) (by assumption) ?_
    case yrt14_specU1_3 => (intro w hSw; (try dsimp only at hSw); go_simp; first | done | with_reducible rfl)
    simp only [List.getElem_toArray, List.getElem_cons_succ, List.getElem_cons_zero, Act.put, List.setIfInBounds_toArray, List.set_cons_zero, List.set_cons_succ]
    refine wpAnyH_ready (rs := [6]) (by kernel_rfl) (by simp) ?_
    refine AllReadyH.cons rfl (fun K hK => ?_) AllReadyH.nil
    go_simp
    refine (dec_any I (by omega) (by omega) _).mono ?_
    rintro e u2 ⟨hv0, hv2⟩
    have hv0' : e = .returned (.string X2) := by rw [hv0, ← hX2]; rfl
    subst hv0'
    clear hv0
    go_wp2_with fail
    refine hK.out _ _ ?_ (fun hHeld => ?_)
    · exact ⟨hHeld.1.step hv2, cell_step hHeld.2.1 hv2, cell_step hHeld.2.2.1 hv2, cell_step hHeld.2.2.2 hv2⟩
    clear hK K
    try simp only [List.getElem_toArray, List.getElem_cons_succ, List.getElem_cons_zero, Act.put, List.setIfInBounds_toArray, List.set_cons_zero, List.set_cons_succ]
    refine wpAnyH_take (i := 7) (v := ?vrt14_specU1_7) rfl (by kernel_rfl) (by kernel_rfl) (by kernel_rfl) (fun _ _ _ h => h) (Or.inl ⟨rfl, ?yrt14_specU1_7⟩) (by assumption) ?_
    case yrt14_specU1_7 => (intro w hSw; (try dsimp only at hSw); go_simp; first | done | with_reducible rfl)
    simp only [List.getElem_toArray, List.getElem_cons_succ, List.getElem_cons_zero, Act.put, List.setIfInBounds_toArray, List.set_cons_zero, List.set_cons_succ]
    refine wpAnyH_take (i := 8) (v := ?vrt14_specU1_8) rfl (by kernel_rfl) (by kernel_rfl) (by kernel_rfl) (fun _ _ _ h => h) (Or.inl ⟨rfl, ?yrt14_specU1_8⟩) (by assumption) ?_
    case yrt14_specU1_8 => (intro w hSw; (try dsimp only at hSw); go_simp; first | done | with_reducible rfl)
    simp only [List.getElem_toArray, List.getElem_cons_succ, List.getElem_cons_zero, Act.put, List.setIfInBounds_toArray, List.set_cons_zero, List.set_cons_succ]
    refine wpAnyH_ready (rs := [11]) (by kernel_rfl) (by simp) ?_
    refine AllReadyH.cons rfl (fun K hK => ?_) AllReadyH.nil
    go_simp
    refine (dec_any Z (by omega) (by omega) _).mono ?_
    rintro e u3 ⟨hv0, hv3⟩
    have hv0' : e = .returned (.string X3) := by rw [hv0, ← hX3]; rfl
    subst hv0'
    clear hv0
    go_wp2_with fail
    refine hK.out _ _ ?_ (fun hHeld => ?_)
    · exact ⟨hHeld.1.step hv3, cell_step hHeld.2.1 hv3, cell_step hHeld.2.2.1 hv3, cell_step hHeld.2.2.2 hv3⟩
    clear hK K
    try simp only [List.getElem_toArray, List.getElem_cons_succ, List.getElem_cons_zero, Act.put, List.setIfInBounds_toArray, List.set_cons_zero, List.set_cons_succ]
    refine wpAnyH_take (i := 12) (v := ?vrt14_specU1_12) rfl (by kernel_rfl) (by kernel_rfl) (by kernel_rfl) (fun _ _ _ h => h) (Or.inl ⟨rfl, ?yrt14_specU1_12⟩) (by assumption) ?_
    case yrt14_specU1_12 => (intro w hSw; (try dsimp only at hSw); go_simp; first | done | with_reducible rfl)
    simp only [List.getElem_toArray, List.getElem_cons_succ, List.getElem_cons_zero, Act.put, List.setIfInBounds_toArray, List.set_cons_zero, List.set_cons_succ]
    refine wpAnyH_take (i := 13) (v := ?vrt14_specU1_13) rfl (by kernel_rfl) (by kernel_rfl) (by kernel_rfl) (fun _ _ _ h => h) (Or.inl ⟨rfl, ?yrt14_specU1_13⟩) (by assumption) ?_
    case yrt14_specU1_13 => (intro w hSw; (try dsimp only at hSw); go_simp; first | done | with_reducible rfl)
    simp only [List.getElem_toArray, List.getElem_cons_succ, List.getElem_cons_zero, Act.put, List.setIfInBounds_toArray, List.set_cons_zero, List.set_cons_succ]
    refine wpAnyH_done (by kernel_rfl) ?_ _
    go_wp2
    go_ret
    exact ⟨by rw [hr.out]; rfl, hHeld.1⟩
set_option maxRecDepth 100000 in
set_option maxHeartbeats 2400000 in
theorem rt14_impl (r : RibbonD) (w : World) (htab : Lib.TabIs Tryd.prog w "internal/strconv.uint64pow10" .u64 Lib.pow10Tab) :
    Calls Tryd.prog 20 #[.agg #[.int .i64 r.spots, .int .i64 r.ink, .int .i64 r.takes]] w fun e w' => e = .returned (.string (rtA r)) ∧ Below w.heap.size w w' := by
  have htb := Lib.hid (fun W (hb : Below w.heap.size w W) => tabIs_below hb htab)
  cases h1 : rbB r with
  | false =>
    have hr : Hid (rtA r = ByteArray.empty) := Lib.hid (by rw [rtA, h1]; rfl)
    have hc := Lib.hid (fun W => ok14i r h1 W)
    generalize rtA r = q at *
    clear h1
    obtain ⟨S, I, Z⟩ := r
    go_enter Tryd.func20, Tryd.ntmps20
    go_wp2_with fail
    refine (hc.out _).mono ?_
    rintro e w1 ⟨rfl, hb1⟩
    go_wp2
    go_ret
    exact ⟨by rw [hr.out]; rfl, (below_a1 _ _).step hb1⟩
  | true =>
    have hr : Hid (rtA r = itB r.spots ++ spA ++ itB r.ink ++ lsA ++ itB r.takes) := Lib.hid (by rw [rtA, if_pos h1])
    have hc := Lib.hid (fun W => ok14i r h1 W)
    obtain ⟨⟨c0, c1⟩, ⟨d0, d1⟩, f0, f1⟩ := rbB_iff.1 h1
    have s1 := itB_size r.spots (by omega) (by omega)
    have s2 := itB_size r.ink (by omega) (by omega)
    have s3 := itB_size r.takes (by omega) (by omega)
    generalize rtA r = q at *
    clear h1
    obtain ⟨S, I, Z⟩ := r
    simp only at *
    generalize hX1 : itB S = X1 at *
    generalize hX2 : itB I = X2 at *
    generalize hX3 : itB Z = X3 at *
    replace s1 : (X1.size : Int) ≤ 21 := by omega
    replace s2 : (X2.size : Int) ≤ 21 := by omega
    replace s3 : (X3.size : Int) ≤ 21 := by omega
    have k1 : ¬ 9223372036854775807 < X1.size + 10 := by omega
    have k2 : ¬ 9223372036854775807 < X1.size + 10 + X2.size := by omega
    have k3 : ¬ 9223372036854775807 < X1.size + 10 + X2.size + 6 := by omega
    have k4 : ¬ 9223372036854775807 < X1.size + 10 + X2.size + 6 + X3.size := by omega
    go_enter Tryd.func20, Tryd.ntmps20
    go_wp2_with fail
    refine (hc.out _).mono ?_
    rintro e w1 ⟨rfl, hb1⟩
    obtain ⟨q0, q1, q2⟩ := (Box3r.new w _ (.int .i64 S) (.int .i64 I) (.int .i64 Z)).step hb1
    have hbz := Lib.hid ((below_a1 w _).step hb1)
    clear hb1
    go_wp2_with fail
    refine wp_region_held_drew (S := fun w' => Below w.heap.size w w' ∧ w'.cell? ⟨w.heap.size, 0, none⟩ = some (.int .i64 S) ∧ w'.cell? ⟨w.heap.size, 1, none⟩ = some (.int .i64 I) ∧ w'.cell? ⟨w.heap.size, 2, none⟩ = some (.int .i64 Z) ∧ Lib.TabIs Tryd.prog w' "internal/strconv.uint64pow10" .u64 Lib.pow10Tab) (by kernel_rfl) ?_ (fun hHeld => ?_)
    · exact ⟨hbz.out.drew, q0, q1, q2, htb.out _ hbz.out.drew⟩
    refine wpAnyH_take (i := 0) (v := ?vrt14_implU2_0) rfl (by kernel_rfl) (by kernel_rfl) (by kernel_rfl) (fun _ _ _ h => h) (Or.inl ⟨rfl, ?yrt14_implU2_0⟩) (by assumption) ?_
    case yrt14_implU2_0 => (intro w hSw; (try dsimp only at hSw); go_simp; first | done | with_reducible rfl)
    simp only [List.getElem_toArray, List.getElem_cons_succ, List.getElem_cons_zero, Act.put, List.setIfInBounds_toArray, List.set_cons_zero, List.set_cons_succ]
    refine wpAnyH_take (i := 1) (v := ?vrt14_implU2_1) rfl (by kernel_rfl) (by kernel_rfl) (by kernel_rfl) (fun _ _ _ h => h) (Or.inl ⟨rfl, ?yrt14_implU2_1⟩) (by assumption) ?_
    case yrt14_implU2_1 => (intro w hSw; (try dsimp only at hSw); go_simp; first | done | with_reducible rfl)
    simp only [List.getElem_toArray, List.getElem_cons_succ, List.getElem_cons_zero, Act.put, List.setIfInBounds_toArray, List.set_cons_zero, List.set_cons_succ]
    refine wpAnyH_take (i := 4) (v := ?vrt14_implU2_4) rfl (by kernel_rfl) (by kernel_rfl) (by kernel_rfl) (fun _ _ _ h => h) (Or.inl ⟨rfl, ?yrt14_implU2_4⟩) (by assumption) ?_
    case yrt14_implU2_4 => (intro w hSw; (try dsimp only at hSw); go_simp; first | done | with_reducible rfl)
    simp only [List.getElem_toArray, List.getElem_cons_succ, List.getElem_cons_zero, Act.put, List.setIfInBounds_toArray, List.set_cons_zero, List.set_cons_succ]
    refine wpAnyH_take (i := 5) (v := ?vrt14_implU2_5) rfl (by kernel_rfl) (by kernel_rfl) (by kernel_rfl) (fun _ _ _ h => h) (Or.inl ⟨rfl, ?yrt14_implU2_5⟩) (by assumption) ?_
    case yrt14_implU2_5 => (intro w hSw; (try dsimp only at hSw); go_simp; first | done | with_reducible rfl)
    simp only [List.getElem_toArray, List.getElem_cons_succ, List.getElem_cons_zero, Act.put, List.setIfInBounds_toArray, List.set_cons_zero, List.set_cons_succ]
    refine wpAnyH_take (i := 9) (v := ?vrt14_implU2_9) rfl (by kernel_rfl) (by kernel_rfl) (by kernel_rfl) (fun _ _ _ h => h) (Or.inl ⟨rfl, ?yrt14_implU2_9⟩) (by assumption) ?_
    case yrt14_implU2_9 => (intro w hSw; (try dsimp only at hSw); go_simp; first | done | with_reducible rfl)
    simp only [List.getElem_toArray, List.getElem_cons_succ, List.getElem_cons_zero, Act.put, List.setIfInBounds_toArray, List.set_cons_zero, List.set_cons_succ]
    refine wpAnyH_take (i := 10) (v := ?vrt14_implU2_10) rfl (by kernel_rfl) (by kernel_rfl) (by kernel_rfl) (fun _ _ _ h => h) (Or.inl ⟨rfl, ?yrt14_implU2_10⟩) (by assumption) ?_
    case yrt14_implU2_10 => (intro w hSw; (try dsimp only at hSw); go_simp; first | done | with_reducible rfl)
    simp only [List.getElem_toArray, List.getElem_cons_succ, List.getElem_cons_zero, Act.put, List.setIfInBounds_toArray, List.set_cons_zero, List.set_cons_succ]
    refine wpAnyH_ready (rs := [2]) (by kernel_rfl) (by simp) ?_
    refine AllReadyH.cons rfl (fun K hK => ?_) AllReadyH.nil
    go_simp
    refine (decimal_impl S (by omega) (by omega) _ hHeld.2.2.2.2).mono ?_
    rintro e u1 ⟨hv0, hv1⟩
    have hv0' : e = .returned (.string X1) := by rw [hv0, ← hX1]; rfl
    subst hv0'
    clear hv0
    go_wp2_with fail
    refine hK.out _ _ ?_ (fun hHeld => ?_)
    · exact ⟨hHeld.1.step hv1, cell_step hHeld.2.1 hv1, cell_step hHeld.2.2.1 hv1, cell_step hHeld.2.2.2.1 hv1, tabIs_below hv1 hHeld.2.2.2.2⟩
    clear hK K
    try simp only [List.getElem_toArray, List.getElem_cons_succ, List.getElem_cons_zero, Act.put, List.setIfInBounds_toArray, List.set_cons_zero, List.set_cons_succ]
    refine wpAnyH_take (i := 3) (v := ?vrt14_implU2_3) rfl (by kernel_rfl) (by kernel_rfl) (by kernel_rfl) (fun _ _ _ h => h) (Or.inl ⟨rfl, ?yrt14_implU2_3⟩) (by assumption) ?_
    case yrt14_implU2_3 => (intro w hSw; (try dsimp only at hSw); go_simp; first | done | with_reducible rfl)
    simp only [List.getElem_toArray, List.getElem_cons_succ, List.getElem_cons_zero, Act.put, List.setIfInBounds_toArray, List.set_cons_zero, List.set_cons_succ]
    refine wpAnyH_ready (rs := [6]) (by kernel_rfl) (by simp) ?_
    refine AllReadyH.cons rfl (fun K hK => ?_) AllReadyH.nil
    go_simp
    refine (decimal_impl I (by omega) (by omega) _ hHeld.2.2.2.2).mono ?_
    rintro e u2 ⟨hv0, hv2⟩
    have hv0' : e = .returned (.string X2) := by rw [hv0, ← hX2]; rfl
    subst hv0'
    clear hv0
    go_wp2_with fail
    refine hK.out _ _ ?_ (fun hHeld => ?_)
    · exact ⟨hHeld.1.step hv2, cell_step hHeld.2.1 hv2, cell_step hHeld.2.2.1 hv2, cell_step hHeld.2.2.2.1 hv2, tabIs_below hv2 hHeld.2.2.2.2⟩
    clear hK K
    try simp only [List.getElem_toArray, List.getElem_cons_succ, List.getElem_cons_zero, Act.put, List.setIfInBounds_toArray, List.set_cons_zero, List.set_cons_succ]
    refine wpAnyH_take (i := 7) (v := ?vrt14_implU2_7) rfl (by kernel_rfl) (by kernel_rfl) (by kernel_rfl) (fun _ _ _ h => h) (Or.inl ⟨rfl, ?yrt14_implU2_7⟩) (by assumption) ?_
    case yrt14_implU2_7 => (intro w hSw; (try dsimp only at hSw); go_simp; first | done | with_reducible rfl)
    simp only [List.getElem_toArray, List.getElem_cons_succ, List.getElem_cons_zero, Act.put, List.setIfInBounds_toArray, List.set_cons_zero, List.set_cons_succ]
    refine wpAnyH_take (i := 8) (v := ?vrt14_implU2_8) rfl (by kernel_rfl) (by kernel_rfl) (by kernel_rfl) (fun _ _ _ h => h) (Or.inl ⟨rfl, ?yrt14_implU2_8⟩) (by assumption) ?_
    case yrt14_implU2_8 => (intro w hSw; (try dsimp only at hSw); go_simp; first | done | with_reducible rfl)
    simp only [List.getElem_toArray, List.getElem_cons_succ, List.getElem_cons_zero, Act.put, List.setIfInBounds_toArray, List.set_cons_zero, List.set_cons_succ]
    refine wpAnyH_ready (rs := [11]) (by kernel_rfl) (by simp) ?_
    refine AllReadyH.cons rfl (fun K hK => ?_) AllReadyH.nil
    go_simp
    refine (decimal_impl Z (by omega) (by omega) _ hHeld.2.2.2.2).mono ?_
    rintro e u3 ⟨hv0, hv3⟩
    have hv0' : e = .returned (.string X3) := by rw [hv0, ← hX3]; rfl
    subst hv0'
    clear hv0
    go_wp2_with fail
    refine hK.out _ _ ?_ (fun hHeld => ?_)
    · exact ⟨hHeld.1.step hv3, cell_step hHeld.2.1 hv3, cell_step hHeld.2.2.1 hv3, cell_step hHeld.2.2.2.1 hv3, tabIs_below hv3 hHeld.2.2.2.2⟩
    clear hK K
    try simp only [List.getElem_toArray, List.getElem_cons_succ, List.getElem_cons_zero, Act.put, List.setIfInBounds_toArray, List.set_cons_zero, List.set_cons_succ]
    refine wpAnyH_take (i := 12) (v := ?vrt14_implU2_12) rfl (by kernel_rfl) (by kernel_rfl) (by kernel_rfl) (fun _ _ _ h => h) (Or.inl ⟨rfl, ?yrt14_implU2_12⟩) (by assumption) ?_
    case yrt14_implU2_12 => (intro w hSw; (try dsimp only at hSw); go_simp; first | done | with_reducible rfl)
    simp only [List.getElem_toArray, List.getElem_cons_succ, List.getElem_cons_zero, Act.put, List.setIfInBounds_toArray, List.set_cons_zero, List.set_cons_succ]
    refine wpAnyH_take (i := 13) (v := ?vrt14_implU2_13) rfl (by kernel_rfl) (by kernel_rfl) (by kernel_rfl) (fun _ _ _ h => h) (Or.inl ⟨rfl, ?yrt14_implU2_13⟩) (by assumption) ?_
    case yrt14_implU2_13 => (intro w hSw; (try dsimp only at hSw); go_simp; first | done | with_reducible rfl)
    simp only [List.getElem_toArray, List.getElem_cons_succ, List.getElem_cons_zero, Act.put, List.setIfInBounds_toArray, List.set_cons_zero, List.set_cons_succ]
    refine wpAnyH_done (by kernel_rfl) ?_ _
    go_wp2
    go_ret
    exact ⟨by rw [hr.out]; rfl, hHeld.1⟩
theorem fnExactRibbonText_any (x0 : RibbonD) (w : World) (h0 : x0.good) (htab : Lib.TabIs Tryd.prog w "internal/strconv.uint64pow10" .u64 Lib.pow10Tab) :
    Calls Tryd.prog 6 #[.agg #[.int .i64 x0.spots, .int .i64 x0.ink, .int .i64 x0.takes]] w fun e w' => e = .returned (.bool true) ∧ Below w.heap.size w w' := by
  have hto := Lib.hid (fun W => toRibbon_any x0 W)
  have hsp := Lib.hid (fun W => rt14_spec x0 W)
  have him := Lib.hid (fun W h => rt14_impl x0 W h)
  replace htab := Lib.hid htab
  generalize rtA x0 = q at *
  obtain ⟨S, I, Z⟩ := x0
  clear h0
  go_enter Tryd.func6, Tryd.ntmps6
  go_wp2_with fail
  refine (hto.out _).mono ?_
  rintro e w1 ⟨rfl, hb1⟩
  obtain ⟨q0, q1, q2⟩ := (Box3r.new w _ (.int .i64 S) (.int .i64 I) (.int .i64 Z)).step hb1
  have z1 := Lib.hid ((below_a1 w _).step hb1)
  go_wp2_with fail
  refine (hsp.out _).mono ?_
  rintro e w2 ⟨rfl, hb2⟩
  replace q0 := cell_step q0 hb2
  replace q1 := cell_step q1 hb2
  replace q2 := cell_step q2 hb2
  have z2 := Lib.hid (z1.out.step hb2)
  clear hb1 hb2 z1
  go_wp2_with fail
  refine (hto.out _).mono ?_
  rintro e w3 ⟨rfl, hb3⟩
  have z3 := Lib.hid (z2.out.step hb3)
  clear hb3 z2 q0 q1 q2
  go_wp2_with fail
  refine (him.out _ (tabIs_below z3.out htab.out)).mono ?_
  rintro e w4 ⟨rfl, hb4⟩
  have z4 := Lib.hid (z3.out.step hb4)
  clear hb4 z3
  go_wp2
  go_ret
  exact ⟨rfl, z4.out⟩
end Go.Proofs.YtceedmejmmoepaaDoor
