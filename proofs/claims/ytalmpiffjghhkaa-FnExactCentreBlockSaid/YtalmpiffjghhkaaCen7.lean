/- Centring: the program's box. -/
import Derived.Test.YtalmpiffjghhkaaCen6
import Derived.Defers
namespace Go.Proofs.Ytalmpiffjghhkaa
open Go.RowKit Go.ChangeShapes Go.WideShapes Go.Deep
set_option linter.unusedVariables false
set_option linter.unusedSimpArgs false

theorem Typed.cell1 {B b : Nat} {T : TypeId} {u : Value} {L : List ByteArray} {w : World} (h : Typed B b T [u] L w) : w.cell? ⟨b, 1, none⟩ = some u := by
  obtain ⟨h1, v, h2, h3, h4⟩ := h
  exact own_cell h2 (by simp)
theorem Typed.cell0 {B b : Nat} {T : TypeId} {rest : List Value} {L : List ByteArray} {w : World} (h : Typed B b T rest L w) : ∃ A c, w.cell? ⟨b, 0, none⟩ = some (.slice A L.length c) ∧ OStrs w B A L.length L := by
  obtain ⟨h1, v, h2, h3, h4⟩ := h
  obtain ⟨A, c, rfl, hO⟩ := owns_s8 rfl h3
  exact ⟨A, c, own_cell h2 (by simp), hO⟩
theorem lit10 (w : World) (T : TypeId) (xs : List ByteArray) : ∀ (j : Nat) x, xs[j]? = some x → (w.alloc (.cells (xs.map Value.string).toArray T)).cell? ⟨w.heap.size, 0 + j, none⟩ = some (.string x) := fun j x hx =>
  cell_new (by simp) (by simp [hx])
theorem leaves_tmps10 {P : Program} {fn : Func} {R : Ending → World → Prop} (hr : ∀ t t' w, (results fn t).run P w = (results fn t').run P w) (t t' : Array Value) : ∀ ds u w, Leaves P fn t R ds u w → Leaves P fn t' R ds u w
  | [], .returning, w, ⟨v, h1, h2⟩ => ⟨v, (hr t' t w).trans h1, h2⟩
  | [], .panicking _, _, h => h
  | [], .run, _, h => h
  | d :: ds, u, w, ⟨h0, fv, cap, f, args, h1, h2, h3⟩ => ⟨h0, fv, cap, f, args, h1, h2, h3.mono (fun e u' w' h => match e, h with
    | .returned _, h => leaves_tmps10 hr t t' ds _ _ h
    | .panicked _, h => leaves_tmps10 hr t t' ds _ _ h
    | .outgrown, h => h)⟩
theorem joinB3 (a b c : ByteArray) : joinB [a, b, c] = a ++ b ++ c := by
  apply bytes_eq
  simp [joinB, Lib.join, ByteArray.data_append]
theorem joinB2 (a b : ByteArray) : joinB [a, b] = a ++ b := by
  apply bytes_eq
  simp [joinB, Lib.join, ByteArray.data_append]
theorem joinB4 (a b c d : ByteArray) : joinB [a, b, c, d] = a ++ b ++ c ++ d := by
  apply bytes_eq
  simp [joinB, Lib.join, ByteArray.data_append]
theorem boE_size (M : Nat) : (boE M).size = M + 4 := by
  rw [boE, ByteArray.size_append, ByteArray.size_append, repB_size, show (⟨#[43]⟩ : ByteArray).size = 1 from rfl]
  omega
theorem boL_size {M : Nat} {x : ByteArray} (h : x.size ≤ M) : (boL M x).size = M + 4 := by
  rw [boL, ByteArray.size_append, ByteArray.size_append, ByteArray.size_append, repB_size]
  rw [show (⟨#[124, 32]⟩ : ByteArray).size = 2 from rfl, show (⟨#[32, 124]⟩ : ByteArray).size = 2 from rfl]
  omega
set_option maxRecDepth 100000 in
set_option maxHeartbeats 3200000 in
theorem rule10_impl (B b M : Nat) (L : List ByteArray) (w : World) (hT : Typed B b 45 [.int .i64 ((M + 4 : Nat) : Int)] L w) (hM : M ≤ 96) (hL : L.length ≤ 900) (hB : B ≤ w.heap.size) :
    Calls Try.prog 45 #[.pointer (some ⟨b, 0, none⟩)] w fun e w' => e = .returned (.tuple #[]) ∧ Typed B b 45 [.int .i64 ((M + 4 : Nat) : Int)] (L ++ [boE M]) w' ∧ Below B w w' := by
  obtain ⟨D, hD⟩ : ∃ D, M + 4 = D := ⟨_, rfl⟩
  rw [hD] at hT ⊢
  obtain ⟨N, hN⟩ : ∃ N, M + 2 = N := ⟨_, rfl⟩
  have hw1 : IntKind.i64.wrap ((D : Int) - 2) = (N : Int) := by rw [IntWalk.i64_in _ (by omega)]; omega
  have hrep := Lib.hid (fun W => rep10 45 N (by omega) W)
  have hJ : joinB [⟨#[43]⟩, repB 45 N, ⟨#[43]⟩] = boE M := by rw [joinB3, boE, hN]
  have hJs := boE_size M
  have hTd := hT.below (Below.refl w.heap.size w).drew
  have hbd : Below B w w.drew := (Below.refl B w).drew
  have hBd : B ≤ w.drew.heap.size := Nat.le_trans hB hbd.size
  generalize boE M = E at *
  generalize repB 45 N = R at *
  have c1 := hTd.cell1
  replace hJ := Lib.hid hJ
  replace hD := Lib.hid hD
  replace hN := Lib.hid hN
  clear hT
  go_enter Try.func45, Try.ntmps45
  go_wp2_with fail
  refine wp_region_held_drew (S := fun w' => w'.cell? ⟨b, 1, none⟩ = some (.int .i64 (D : Int))) (by kernel_rfl) c1 (fun hHeld => ?_)
  generalize w.drew = wd at *
  refine wpAnyH_take (i := 0) (v := ?vs22_0) rfl (by kernel_rfl) (by kernel_rfl) (by kernel_rfl) (fun _ _ _ h => h) (Or.inl ⟨rfl, ?ys22_0⟩) (by assumption) ?_
  case ys22_0 => (intro w hSw; (try dsimp only at hSw); go_simp; first | done | with_reducible rfl)
  try simp only [List.getElem_toArray, List.getElem_cons_succ, List.getElem_cons_zero, Act.put, List.setIfInBounds_toArray, List.set_cons_zero, List.set_cons_succ]
  refine wpAnyH_take (i := 1) (v := ?vs23_1) rfl (by kernel_rfl) (by kernel_rfl) (by kernel_rfl) (fun _ _ _ h => h) (Or.inl ⟨rfl, ?ys23_1⟩) (by assumption) ?_
  case ys23_1 => (intro w hSw; (try dsimp only at hSw); go_simp; first | done | with_reducible rfl)
  try simp only [List.getElem_toArray, List.getElem_cons_succ, List.getElem_cons_zero, Act.put, List.setIfInBounds_toArray, List.set_cons_zero, List.set_cons_succ]
  refine wpAnyH_take (i := 2) (v := ?vs24_2) rfl (by kernel_rfl) (by kernel_rfl) (by kernel_rfl) (fun _ _ _ h => h) (Or.inl ⟨rfl, ?ys24_2⟩) (by assumption) ?_
  case ys24_2 => (intro w hSw; (try dsimp only at hSw); go_simp; first | done | with_reducible rfl)
  try simp only [List.getElem_toArray, List.getElem_cons_succ, List.getElem_cons_zero, Act.put, List.setIfInBounds_toArray, List.set_cons_zero, List.set_cons_succ]
  refine wpAnyH_take (i := 3) (v := ?vs25_3) rfl (by kernel_rfl) (by kernel_rfl) (by kernel_rfl) (fun _ _ _ h => h) (Or.inl ⟨rfl, ?ys25_3⟩) (by assumption) ?_
  case ys25_3 => (intro w hSw; (try dsimp only at hSw); go_simp; first | done | with_reducible rfl)
  try simp only [List.getElem_toArray, List.getElem_cons_succ, List.getElem_cons_zero, Act.put, List.setIfInBounds_toArray, List.set_cons_zero, List.set_cons_succ]
  refine wpAnyH_take (i := 4) (v := ?vs26_4) rfl (by kernel_rfl) (by kernel_rfl) (by kernel_rfl) (fun _ _ _ h => h) (Or.inl ⟨rfl, ?ys26_4⟩) (by assumption) ?_
  case ys26_4 => (intro w hSw; (try dsimp only at hSw); go_simp; first | done | with_reducible rfl)
  try simp only [List.getElem_toArray, List.getElem_cons_succ, List.getElem_cons_zero, Act.put, List.setIfInBounds_toArray, List.set_cons_zero, List.set_cons_succ]
  refine wpAnyH_take (i := 5) (v := ?vs27_5) rfl (by kernel_rfl) (by kernel_rfl) (by kernel_rfl) (fun _ _ _ h => h) (Or.inl ⟨rfl, ?ys27_5⟩) (by assumption) ?_
  case ys27_5 => (intro w hSw; (try dsimp only at hSw); go_simp; first | done | with_reducible rfl)
  try simp only [List.getElem_toArray, List.getElem_cons_succ, List.getElem_cons_zero, Act.put, List.setIfInBounds_toArray, List.set_cons_zero, List.set_cons_succ]
  refine wpAnyH_take (i := 6) (v := ?vs28_6) rfl (by kernel_rfl) (by kernel_rfl) (by kernel_rfl) (fun _ _ _ h => h) (Or.inl ⟨rfl, ?ys28_6⟩) (by assumption) ?_
  case ys28_6 => (intro w hSw; (try dsimp only at hSw); go_simp; first | done | with_reducible rfl)
  try simp only [List.getElem_toArray, List.getElem_cons_succ, List.getElem_cons_zero, Act.put, List.setIfInBounds_toArray, List.set_cons_zero, List.set_cons_succ]
  refine wpAnyH_take (i := 7) (v := ?vs29_7) rfl (by kernel_rfl) (by kernel_rfl) (by kernel_rfl) (fun _ _ _ h => h) (Or.inl ⟨rfl, ?ys29_7⟩) (by assumption) ?_
  case ys29_7 => (intro w hSw; (try dsimp only at hSw); go_simp; first | done | with_reducible rfl)
  try simp only [List.getElem_toArray, List.getElem_cons_succ, List.getElem_cons_zero, Act.put, List.setIfInBounds_toArray, List.set_cons_zero, List.set_cons_succ]
  refine wpAnyH_ready (rs := [8]) (by kernel_rfl) (by simp) ?_
  refine AllReadyH.cons rfl (fun K hK => ?_) AllReadyH.nil
  go_simp
  refine (hrep.out _).mono ?_
  rintro e w7 ⟨rfl, hb7⟩
  go_wp2_with fail
  refine hK.out _ _ (cell_step c1 hb7) (fun hHeld => ?_)
  clear hK K
  try simp only [List.getElem_toArray, List.getElem_cons_succ, List.getElem_cons_zero, Act.put, List.setIfInBounds_toArray, List.set_cons_zero, List.set_cons_succ]
  have hT7 := hTd.below hb7
  have hb07 := Lib.hid (below_step10 hbd hb7 hBd)
  have hB7 := Nat.le_trans hBd hb7.size
  clear hb7 hTd hbd c1
  refine wpAnyH_ready (rs := [9]) (by kernel_rfl) (by simp) ?_
  refine AllReadyH.cons rfl (fun K hK => ?_) AllReadyH.nil
  go_simp
  refine hK.out _ _ (cell_on hHeld _) (fun hHeld => ?_)
  clear hK K
  try simp only [List.getElem_toArray, List.getElem_cons_succ, List.getElem_cons_zero, Act.put, List.setIfInBounds_toArray, List.set_cons_zero, List.set_cons_succ]
  have hT8 := hT7.below (below_a1 w7 (.cells #[.string ⟨#[43]⟩, .string R, .string ⟨#[43]⟩] 9))
  have hb08 := Lib.hid (hb07.out.alloc (by omega) (.cells #[.string ⟨#[43]⟩, .string R, .string ⟨#[43]⟩] 9))
  have hl8 := Lib.hid (lit10 w7 9 [⟨#[43]⟩, R, ⟨#[43]⟩])
  have hB8 : B ≤ (w7.alloc (.cells #[.string ⟨#[43]⟩, .string R, .string ⟨#[43]⟩] 9)).heap.size := by simp; omega
  have hp8 : w7.heap.size < (w7.alloc (.cells #[.string ⟨#[43]⟩, .string R, .string ⟨#[43]⟩] 9)).heap.size := by simp
  clear hT7 hb07
  refine wpAnyH_ready (rs := [10]) (by kernel_rfl) (by simp) ?_
  refine AllReadyH.cons rfl (fun K hK => ?_) AllReadyH.nil
  go_simp
  refine (add10 B b 45 [.int .i64 (D : Int)] L w7.heap.size 3 3 [⟨#[43]⟩, R, ⟨#[43]⟩] _ hT8 hl8.out hp8 rfl (by omega) (by omega) (by omega) hB8 hJ.out (by omega)).mono ?_
  rintro e w9 ⟨rfl, hT9, hb9⟩
  go_wp2_with fail
  refine hK.out _ _ (hT9.cell1) (fun hHeld => ?_)
  clear hK K
  try simp only [List.getElem_toArray, List.getElem_cons_succ, List.getElem_cons_zero, Act.put, List.setIfInBounds_toArray, List.set_cons_zero, List.set_cons_succ]
  have hfin := Lib.hid (hb08.out.trans hb9)
  clear hb08 hb9 hl8 hT8
  refine wpAnyH_done (by kernel_rfl) ?_ _
  go_wp2
  go_end0
  exact ⟨rfl, hT9, hfin.out⟩
set_option maxRecDepth 100000 in
set_option maxHeartbeats 3200000 in
theorem rule10_defer (B b M : Nat) (L : List ByteArray) (u : FrameMode) (w : World) (hT : Typed B b 45 [.int .i64 ((M + 4 : Nat) : Int)] L w) (hM : M ≤ 96) (hL : L.length ≤ 900) (hB : B ≤ w.heap.size) :
    CallsD Try.prog 45 #[.pointer (some ⟨b, 0, none⟩)] u w fun e u' w' => u' = u ∧ (e = .returned (.tuple #[]) ∧ Typed B b 45 [.int .i64 ((M + 4 : Nat) : Int)] (L ++ [boE M]) w' ∧ Below B w w') := by
  obtain ⟨D, hD⟩ : ∃ D, M + 4 = D := ⟨_, rfl⟩
  rw [hD] at hT ⊢
  obtain ⟨N, hN⟩ : ∃ N, M + 2 = N := ⟨_, rfl⟩
  have hw1 : IntKind.i64.wrap ((D : Int) - 2) = (N : Int) := by rw [IntWalk.i64_in _ (by omega)]; omega
  have hrep := Lib.hid (fun W => rep10 45 N (by omega) W)
  have hJ : joinB [⟨#[43]⟩, repB 45 N, ⟨#[43]⟩] = boE M := by rw [joinB3, boE, hN]
  have hJs := boE_size M
  have hTd := hT.below (Below.refl w.heap.size w).drew
  have hbd : Below B w w.drew := (Below.refl B w).drew
  have hBd : B ≤ w.drew.heap.size := Nat.le_trans hB hbd.size
  generalize boE M = E at *
  generalize repB 45 N = R at *
  have c1 := hTd.cell1
  replace hJ := Lib.hid hJ
  replace hD := Lib.hid hD
  replace hN := Lib.hid hN
  clear hT
  go_enter_d Try.func45, Try.ntmps45
  go_wp2_with fail
  refine wp_region_held_drew (S := fun w' => w'.cell? ⟨b, 1, none⟩ = some (.int .i64 (D : Int))) (by kernel_rfl) c1 (fun hHeld => ?_)
  generalize w.drew = wd at *
  refine wpAnyH_take (i := 0) (v := ?vs30_0) rfl (by kernel_rfl) (by kernel_rfl) (by kernel_rfl) (fun _ _ _ h => h) (Or.inl ⟨rfl, ?ys30_0⟩) (by assumption) ?_
  case ys30_0 => (intro w hSw; (try dsimp only at hSw); go_simp; first | done | with_reducible rfl)
  try simp only [List.getElem_toArray, List.getElem_cons_succ, List.getElem_cons_zero, Act.put, List.setIfInBounds_toArray, List.set_cons_zero, List.set_cons_succ]
  refine wpAnyH_take (i := 1) (v := ?vs31_1) rfl (by kernel_rfl) (by kernel_rfl) (by kernel_rfl) (fun _ _ _ h => h) (Or.inl ⟨rfl, ?ys31_1⟩) (by assumption) ?_
  case ys31_1 => (intro w hSw; (try dsimp only at hSw); go_simp; first | done | with_reducible rfl)
  try simp only [List.getElem_toArray, List.getElem_cons_succ, List.getElem_cons_zero, Act.put, List.setIfInBounds_toArray, List.set_cons_zero, List.set_cons_succ]
  refine wpAnyH_take (i := 2) (v := ?vs32_2) rfl (by kernel_rfl) (by kernel_rfl) (by kernel_rfl) (fun _ _ _ h => h) (Or.inl ⟨rfl, ?ys32_2⟩) (by assumption) ?_
  case ys32_2 => (intro w hSw; (try dsimp only at hSw); go_simp; first | done | with_reducible rfl)
  try simp only [List.getElem_toArray, List.getElem_cons_succ, List.getElem_cons_zero, Act.put, List.setIfInBounds_toArray, List.set_cons_zero, List.set_cons_succ]
  refine wpAnyH_take (i := 3) (v := ?vs33_3) rfl (by kernel_rfl) (by kernel_rfl) (by kernel_rfl) (fun _ _ _ h => h) (Or.inl ⟨rfl, ?ys33_3⟩) (by assumption) ?_
  case ys33_3 => (intro w hSw; (try dsimp only at hSw); go_simp; first | done | with_reducible rfl)
  try simp only [List.getElem_toArray, List.getElem_cons_succ, List.getElem_cons_zero, Act.put, List.setIfInBounds_toArray, List.set_cons_zero, List.set_cons_succ]
  refine wpAnyH_take (i := 4) (v := ?vs34_4) rfl (by kernel_rfl) (by kernel_rfl) (by kernel_rfl) (fun _ _ _ h => h) (Or.inl ⟨rfl, ?ys34_4⟩) (by assumption) ?_
  case ys34_4 => (intro w hSw; (try dsimp only at hSw); go_simp; first | done | with_reducible rfl)
  try simp only [List.getElem_toArray, List.getElem_cons_succ, List.getElem_cons_zero, Act.put, List.setIfInBounds_toArray, List.set_cons_zero, List.set_cons_succ]
  refine wpAnyH_take (i := 5) (v := ?vs35_5) rfl (by kernel_rfl) (by kernel_rfl) (by kernel_rfl) (fun _ _ _ h => h) (Or.inl ⟨rfl, ?ys35_5⟩) (by assumption) ?_
  case ys35_5 => (intro w hSw; (try dsimp only at hSw); go_simp; first | done | with_reducible rfl)
  try simp only [List.getElem_toArray, List.getElem_cons_succ, List.getElem_cons_zero, Act.put, List.setIfInBounds_toArray, List.set_cons_zero, List.set_cons_succ]
  refine wpAnyH_take (i := 6) (v := ?vs36_6) rfl (by kernel_rfl) (by kernel_rfl) (by kernel_rfl) (fun _ _ _ h => h) (Or.inl ⟨rfl, ?ys36_6⟩) (by assumption) ?_
  case ys36_6 => (intro w hSw; (try dsimp only at hSw); go_simp; first | done | with_reducible rfl)
  try simp only [List.getElem_toArray, List.getElem_cons_succ, List.getElem_cons_zero, Act.put, List.setIfInBounds_toArray, List.set_cons_zero, List.set_cons_succ]
  refine wpAnyH_take (i := 7) (v := ?vs37_7) rfl (by kernel_rfl) (by kernel_rfl) (by kernel_rfl) (fun _ _ _ h => h) (Or.inl ⟨rfl, ?ys37_7⟩) (by assumption) ?_
  case ys37_7 => (intro w hSw; (try dsimp only at hSw); go_simp; first | done | with_reducible rfl)
  try simp only [List.getElem_toArray, List.getElem_cons_succ, List.getElem_cons_zero, Act.put, List.setIfInBounds_toArray, List.set_cons_zero, List.set_cons_succ]
  refine wpAnyH_ready (rs := [8]) (by kernel_rfl) (by simp) ?_
  refine AllReadyH.cons rfl (fun K hK => ?_) AllReadyH.nil
  go_simp
  refine (hrep.out _).mono ?_
  rintro e w7 ⟨rfl, hb7⟩
  go_wp2_with fail
  refine hK.out _ _ (cell_step c1 hb7) (fun hHeld => ?_)
  clear hK K
  try simp only [List.getElem_toArray, List.getElem_cons_succ, List.getElem_cons_zero, Act.put, List.setIfInBounds_toArray, List.set_cons_zero, List.set_cons_succ]
  have hT7 := hTd.below hb7
  have hb07 := Lib.hid (below_step10 hbd hb7 hBd)
  have hB7 := Nat.le_trans hBd hb7.size
  clear hb7 hTd hbd c1
  refine wpAnyH_ready (rs := [9]) (by kernel_rfl) (by simp) ?_
  refine AllReadyH.cons rfl (fun K hK => ?_) AllReadyH.nil
  go_simp
  refine hK.out _ _ (cell_on hHeld _) (fun hHeld => ?_)
  clear hK K
  try simp only [List.getElem_toArray, List.getElem_cons_succ, List.getElem_cons_zero, Act.put, List.setIfInBounds_toArray, List.set_cons_zero, List.set_cons_succ]
  have hT8 := hT7.below (below_a1 w7 (.cells #[.string ⟨#[43]⟩, .string R, .string ⟨#[43]⟩] 9))
  have hb08 := Lib.hid (hb07.out.alloc (by omega) (.cells #[.string ⟨#[43]⟩, .string R, .string ⟨#[43]⟩] 9))
  have hl8 := Lib.hid (lit10 w7 9 [⟨#[43]⟩, R, ⟨#[43]⟩])
  have hB8 : B ≤ (w7.alloc (.cells #[.string ⟨#[43]⟩, .string R, .string ⟨#[43]⟩] 9)).heap.size := by simp; omega
  have hp8 : w7.heap.size < (w7.alloc (.cells #[.string ⟨#[43]⟩, .string R, .string ⟨#[43]⟩] 9)).heap.size := by simp
  clear hT7 hb07
  refine wpAnyH_ready (rs := [10]) (by kernel_rfl) (by simp) ?_
  refine AllReadyH.cons rfl (fun K hK => ?_) AllReadyH.nil
  go_simp
  refine (add10 B b 45 [.int .i64 (D : Int)] L w7.heap.size 3 3 [⟨#[43]⟩, R, ⟨#[43]⟩] _ hT8 hl8.out hp8 rfl (by omega) (by omega) (by omega) hB8 hJ.out (by omega)).mono ?_
  rintro e w9 ⟨rfl, hT9, hb9⟩
  go_wp2_with fail
  refine hK.out _ _ (hT9.cell1) (fun hHeld => ?_)
  clear hK K
  try simp only [List.getElem_toArray, List.getElem_cons_succ, List.getElem_cons_zero, Act.put, List.setIfInBounds_toArray, List.set_cons_zero, List.set_cons_succ]
  have hfin := Lib.hid (hb08.out.trans hb9)
  clear hb08 hb9 hl8 hT8
  refine wpAnyH_done (by kernel_rfl) ?_ _
  go_wp2
  go_end0
  exact ⟨rfl, hT9, hfin.out⟩
set_option maxRecDepth 100000 in
set_option maxHeartbeats 6400000 in
theorem framed10 (w0 : World) (b M : Nat) (A : Option Addr) (n c : Nat) (ls : List ByteArray) (w : World) (h0 : Strs w0 A n ls) (hb0 : Below w0.heap.size w0 w) (hT : Typed w0.heap.size b 45 [.int .i64 ((M + 4 : Nat) : Int)] [] w) (hM : M ≤ 96) (hn : n ≤ 40) (hs : ∀ x ∈ ls, x.size ≤ M) :
    Calls Try.prog 28 #[.pointer (some ⟨b, 0, none⟩), .slice A n c] w fun e w' => e = .returned (.tuple #[]) ∧ Typed w0.heap.size b 45 [.int .i64 ((M + 4 : Nat) : Int)] (boE M :: ls.map (boL M) ++ [boE M]) w' ∧ Below w0.heap.size w w' := by
  have hl := Lib.hid h0.1
  have hr1 := Lib.hid (rule10_impl w0.heap.size b M [] w hT hM (by simp) hb0.size)
  have hr2 := Lib.hid (fun W u hTW hBW => rule10_defer w0.heap.size b M (boE M :: ls.map (boL M)) u W hTW hM (by simp only [List.length_cons, List.length_map, hl.out]; omega) hBW)
  have had := Lib.hid (fun W (L : List ByteArray) pb xs => add10 w0.heap.size b 45 [.int .i64 ((M + 4 : Nat) : Int)] L pb 4 4 xs W)
  obtain ⟨D, hD⟩ : ∃ D, M + 4 = D := ⟨_, rfl⟩
  rw [hD] at hT hr1 hr2 had ⊢
  have hD1 := Lib.hid hD
  have hw1 : IntKind.i64.wrap ((D : Int) - 4) = (M : Int) := by rw [IntWalk.i64_in _ (by omega)]; omega
  have hs0 := Lib.hid hs
  have hE := Lib.hid (boE_size M)
  replace hT := Lib.hid hT
  have hb00 := Lib.hid hb0
  clear hs hD hb0
  have hrr : ∀ t t' w, (results Try.f28 t).run Try.prog w = (results Try.f28 t').run Try.prog w := fun t t' w => (results_none rfl _ _ _).trans (results_none rfl _ _ _).symm
  go_enter_defers Try.func28, Try.ntmps28
  go_wp2_with fail
  refine hr1.out.mono ?_
  rintro e w1 ⟨rfl, hT1, hb1⟩
  have hbw1 := Lib.hid hb1
  have hb01 := Lib.hid (hb00.out.trans hb1)
  clear hr1 hT hb1
  go_wp2
  go_loopw [5, 11] (fun a q wr => ∃ k : Nat, k ≤ n ∧ q = .int .i64 k ∧ Typed w0.heap.size b 45 [.int .i64 (D : Int)] (boE M :: (ls.take k).map (boL M)) wr ∧ Below w0.heap.size w1 wr) (fun _ q _ => n - (intOf q).toNat)
  case atStart => exact ⟨0, by omega, rfl, hT1, Below.refl _ _⟩
  case round =>
    rename World => wr
    obtain ⟨k, hk, rfl, hTr, hbw⟩ := hrel
    have hb0r := hb01.out.trans hbw
    by_cases hlt : k < n
    · obtain ⟨bb, off, x, rfl, hb, hx, d0⟩ := str_at (h0.below hb0r) hlt
      have hxs := hs0.out x (List.mem_of_getElem? hx.out)
      have hk0 : (0 : Int) ≤ (k : Int) := Int.natCast_nonneg _
      have hk1 : (k : Int) < (n : Int) := by omega
      have hsn : Hid (boE M :: (ls.take (k + 1)).map (boL M) = (boE M :: (ls.take k).map (boL M)) ++ [boL M x]) := Lib.hid (by rw [take8 hx.out, List.map_append]; rfl)
      have hll : Hid ((boE M :: (ls.take k).map (boL M)).length ≤ 100) := Lib.hid (by simp only [List.length_cons, List.length_map, List.length_take]; omega)
      obtain ⟨q, hq⟩ : ∃ q, M - x.size = q := ⟨_, rfl⟩
      have hmi := Lib.hid (fun W => miss10 x (M : Int) (q := (q : Int)) (by rw [IntWalk.i64_in _ (by omega)]; omega) W)
      have hbl := Lib.hid (fun W => blanks10_impl q (by omega) W)
      have hJ : Hid (joinB [⟨#[124, 32]⟩, x, repB 32 q, ⟨#[32, 124]⟩] = boL M x) := Lib.hid (by rw [joinB4, boL, hq])
      have hJs := Lib.hid (boL_size hxs)
      have hTd := hTr.below (Below.refl wr.heap.size wr).drew
      have hzr := hb0r.size
      have hbd : Below w0.heap.size w1 wr.drew := hbw.drew
      have hBd : w0.heap.size ≤ wr.drew.heap.size := Nat.le_trans hb0r.size (Below.refl wr.heap.size wr).drew.size
      have c1 := hTd.cell1
      replace hq := Lib.hid hq
      generalize boL M x = JL at *
      generalize repB 32 q = R at *
      generalize boE M :: (ls.take k).map (boL M) = LL at *
      clear hTr hb0r
      go_wp2_with fail
      refine wp_region_held_drew (S := fun w' => w'.cell? ⟨b, 1, none⟩ = some (.int .i64 (D : Int))) (by kernel_rfl) c1 (fun hHeld => ?_)
      generalize wr.drew = wd at *
      refine wpAnyH_take (i := 0) (v := ?vs12_0) rfl (by kernel_rfl) (by kernel_rfl) (by kernel_rfl) (fun _ _ _ h => leaves_tmps10 hrr _ _ _ _ _ h) (Or.inl ⟨rfl, ?ys12_0⟩) (by assumption) ?_
      case ys12_0 => (intro w hSw; (try dsimp only at hSw); go_simp; first | done | with_reducible rfl)
      try simp only [List.getElem_toArray, List.getElem_cons_succ, List.getElem_cons_zero, Act.put, List.setIfInBounds_toArray, List.set_cons_zero, List.set_cons_succ]
      refine wpAnyH_take (i := 1) (v := ?vs13_1) rfl (by kernel_rfl) (by kernel_rfl) (by kernel_rfl) (fun _ _ _ h => leaves_tmps10 hrr _ _ _ _ _ h) (Or.inl ⟨rfl, ?ys13_1⟩) (by assumption) ?_
      case ys13_1 => (intro w hSw; (try dsimp only at hSw); go_simp; first | done | with_reducible rfl)
      try simp only [List.getElem_toArray, List.getElem_cons_succ, List.getElem_cons_zero, Act.put, List.setIfInBounds_toArray, List.set_cons_zero, List.set_cons_succ]
      refine wpAnyH_take (i := 2) (v := ?vs14_2) rfl (by kernel_rfl) (by kernel_rfl) (by kernel_rfl) (fun _ _ _ h => leaves_tmps10 hrr _ _ _ _ _ h) (Or.inl ⟨rfl, ?ys14_2⟩) (by assumption) ?_
      case ys14_2 => (intro w hSw; (try dsimp only at hSw); go_simp; first | done | with_reducible rfl)
      try simp only [List.getElem_toArray, List.getElem_cons_succ, List.getElem_cons_zero, Act.put, List.setIfInBounds_toArray, List.set_cons_zero, List.set_cons_succ]
      refine wpAnyH_take (i := 3) (v := ?vs15_3) rfl (by kernel_rfl) (by kernel_rfl) (by kernel_rfl) (fun _ _ _ h => leaves_tmps10 hrr _ _ _ _ _ h) (Or.inl ⟨rfl, ?ys15_3⟩) (by assumption) ?_
      case ys15_3 => (intro w hSw; (try dsimp only at hSw); go_simp; first | done | with_reducible rfl)
      try simp only [List.getElem_toArray, List.getElem_cons_succ, List.getElem_cons_zero, Act.put, List.setIfInBounds_toArray, List.set_cons_zero, List.set_cons_succ]
      refine wpAnyH_take (i := 4) (v := ?vs16_4) rfl (by kernel_rfl) (by kernel_rfl) (by kernel_rfl) (fun _ _ _ h => leaves_tmps10 hrr _ _ _ _ _ h) (Or.inl ⟨rfl, ?ys16_4⟩) (by assumption) ?_
      case ys16_4 => (intro w hSw; (try dsimp only at hSw); go_simp; first | done | with_reducible rfl)
      try simp only [List.getElem_toArray, List.getElem_cons_succ, List.getElem_cons_zero, Act.put, List.setIfInBounds_toArray, List.set_cons_zero, List.set_cons_succ]
      refine wpAnyH_take (i := 5) (v := ?vs17_5) rfl (by kernel_rfl) (by kernel_rfl) (by kernel_rfl) (fun _ _ _ h => leaves_tmps10 hrr _ _ _ _ _ h) (Or.inl ⟨rfl, ?ys17_5⟩) (by assumption) ?_
      case ys17_5 => (intro w hSw; (try dsimp only at hSw); go_simp; first | done | with_reducible rfl)
      try simp only [List.getElem_toArray, List.getElem_cons_succ, List.getElem_cons_zero, Act.put, List.setIfInBounds_toArray, List.set_cons_zero, List.set_cons_succ]
      refine wpAnyH_take (i := 6) (v := ?vs18_6) rfl (by kernel_rfl) (by kernel_rfl) (by kernel_rfl) (fun _ _ _ h => leaves_tmps10 hrr _ _ _ _ _ h) (Or.inl ⟨rfl, ?ys18_6⟩) (by assumption) ?_
      case ys18_6 => (intro w hSw; (try dsimp only at hSw); go_simp; first | done | with_reducible rfl)
      try simp only [List.getElem_toArray, List.getElem_cons_succ, List.getElem_cons_zero, Act.put, List.setIfInBounds_toArray, List.set_cons_zero, List.set_cons_succ]
      refine wpAnyH_take (i := 7) (v := ?vs19_7) rfl (by kernel_rfl) (by kernel_rfl) (by kernel_rfl) (fun _ _ _ h => leaves_tmps10 hrr _ _ _ _ _ h) (Or.inl ⟨rfl, ?ys19_7⟩) (by assumption) ?_
      case ys19_7 => (intro w hSw; (try dsimp only at hSw); go_simp; first | done | with_reducible rfl)
      try simp only [List.getElem_toArray, List.getElem_cons_succ, List.getElem_cons_zero, Act.put, List.setIfInBounds_toArray, List.set_cons_zero, List.set_cons_succ]
      refine wpAnyH_take (i := 8) (v := ?vs20_8) rfl (by kernel_rfl) (by kernel_rfl) (by kernel_rfl) (fun _ _ _ h => leaves_tmps10 hrr _ _ _ _ _ h) (Or.inl ⟨rfl, ?ys20_8⟩) (by assumption) ?_
      case ys20_8 => (intro w hSw; (try dsimp only at hSw); go_simp; first | done | with_reducible rfl)
      try simp only [List.getElem_toArray, List.getElem_cons_succ, List.getElem_cons_zero, Act.put, List.setIfInBounds_toArray, List.set_cons_zero, List.set_cons_succ]
      refine wpAnyH_take (i := 9) (v := ?vs21_9) rfl (by kernel_rfl) (by kernel_rfl) (by kernel_rfl) (fun _ _ _ h => leaves_tmps10 hrr _ _ _ _ _ h) (Or.inl ⟨rfl, ?ys21_9⟩) (by assumption) ?_
      case ys21_9 => (intro w hSw; (try dsimp only at hSw); go_simp; first | done | with_reducible rfl)
      try simp only [List.getElem_toArray, List.getElem_cons_succ, List.getElem_cons_zero, Act.put, List.setIfInBounds_toArray, List.set_cons_zero, List.set_cons_succ]
      refine wpAnyH_ready (rs := [10]) (by kernel_rfl) (by simp) ?_
      refine AllReadyH.cons rfl (fun K hK => ?_) AllReadyH.nil
      go_simp
      refine (hmi.out _).mono ?_
      rintro e w6 ⟨rfl, rfl⟩
      go_wp2_with fail
      refine hK.out _ _ (hHeld) (fun hHeld => ?_)
      clear hK K
      try simp only [List.getElem_toArray, List.getElem_cons_succ, List.getElem_cons_zero, Act.put, List.setIfInBounds_toArray, List.set_cons_zero, List.set_cons_succ]
      refine wpAnyH_ready (rs := [11]) (by kernel_rfl) (by simp) ?_
      refine AllReadyH.cons rfl (fun K hK => ?_) AllReadyH.nil
      go_simp
      refine (hbl.out _).mono ?_
      rintro e w7 ⟨rfl, hb7⟩
      go_wp2_with fail
      refine hK.out _ _ (cell_step c1 hb7) (fun hHeld => ?_)
      clear hK K
      try simp only [List.getElem_toArray, List.getElem_cons_succ, List.getElem_cons_zero, Act.put, List.setIfInBounds_toArray, List.set_cons_zero, List.set_cons_succ]
      have hT7 := hTd.below hb7
      have hb07 := Lib.hid (below_step10 hbd hb7 hBd)
      have hB7 := Nat.le_trans hBd hb7.size
      clear hb7 hTd hbd c1
      refine wpAnyH_ready (rs := [12]) (by kernel_rfl) (by simp) ?_
      refine AllReadyH.cons rfl (fun K hK => ?_) AllReadyH.nil
      go_simp
      refine hK.out _ _ (cell_on hHeld _) (fun hHeld => ?_)
      clear hK K
      try simp only [List.getElem_toArray, List.getElem_cons_succ, List.getElem_cons_zero, Act.put, List.setIfInBounds_toArray, List.set_cons_zero, List.set_cons_succ]
      have hT8 := hT7.below (below_a1 w7 (.cells #[.string ⟨#[124, 32]⟩, .string x, .string R, .string ⟨#[32, 124]⟩] 9))
      have hb08 := Lib.hid (hb07.out.alloc (by omega) (.cells #[.string ⟨#[124, 32]⟩, .string x, .string R, .string ⟨#[32, 124]⟩] 9))
      have hl8 := Lib.hid (lit10 w7 9 [⟨#[124, 32]⟩, x, R, ⟨#[32, 124]⟩])
      have hB8 : w0.heap.size ≤ (w7.alloc (.cells #[.string ⟨#[124, 32]⟩, .string x, .string R, .string ⟨#[32, 124]⟩] 9)).heap.size := by simp; omega
      have hp8 : w7.heap.size < (w7.alloc (.cells #[.string ⟨#[124, 32]⟩, .string x, .string R, .string ⟨#[32, 124]⟩] 9)).heap.size := by simp
      clear hT7 hb07
      refine wpAnyH_ready (rs := [13]) (by kernel_rfl) (by simp) ?_
      refine AllReadyH.cons rfl (fun K hK => ?_) AllReadyH.nil
      go_simp
      refine (had.out _ LL w7.heap.size [⟨#[124, 32]⟩, x, R, ⟨#[32, 124]⟩] hT8 hl8.out hp8 rfl (by omega) (by omega) (by have := hll.out; omega) hB8 hJ.out (by have := hJs.out; omega)).mono ?_
      rintro e w9 ⟨rfl, hT9, hb9⟩
      go_wp2_with fail
      refine hK.out _ _ (hT9.cell1) (fun hHeld => ?_)
      clear hK K
      try simp only [List.getElem_toArray, List.getElem_cons_succ, List.getElem_cons_zero, Act.put, List.setIfInBounds_toArray, List.set_cons_zero, List.set_cons_succ]
      have hfin := Lib.hid (hb08.out.trans hb9)
      clear hb08 hb9 hl8 hT8
      refine wpAnyH_done (by kernel_rfl) ?_ _
      go_wp2
      go_roundw
      case rel => exact ⟨k + 1, by omega, by go_num, by rw [hsn.out]; exact hT9, hfin.out⟩
      case measure => simp [intOf]; omega
    · obtain rfl : k = n := by omega
      have g1 : ¬ (k : Int) < (k : Int) := by omega
      rw [List.take_of_length_le (by rw [hl.out]; exact Nat.le_refl _)] at hTr
      have hzr := hb0r.size
      have hr9 := Lib.hid (hr2.out wr .returning hTr hzr)
      have hbe := Lib.hid (hbw1.out.trans hbw)
      clear hr2 hTr hb0r
      go_wp2
      refine leaves_cons (f := 45) (args := #[.pointer (some ⟨b, 0, none⟩)]) (by simp) (by simp [go_sem]) ?_
      refine (hr9.out).mono ?_
      rintro e u' w9 ⟨rfl, rfl, hT9, hb9⟩
      exact ⟨_, results_none rfl _ _ _, rfl, hT9, hbe.out.trans hb9⟩
end Go.Proofs.Ytalmpiffjghhkaa
