/- MovedLetters: the program's function. -/
import Derived.Test.YticggclpaalhgaaMvd
import Derived.Test.YticggclpaalhgaaLw6
import Derived.Deep.RegionHeld3
import Derived.Laws.StructEq
namespace Go.Proofs.Yticggclpaalhgaa
open Go.RowKit Go.ChangeMaps Go.MapKept Go.ChangeShapes Go.WideShapes Go.Deep
set_option linter.unusedVariables false
set_option linter.unusedSimpArgs false

theorem sp_equal (p q : Nat × Nat) (w : World) : (Op.equal 61 (spotV6 p) (spotV6 q)).run Try.prog w = .ok (decide (p = q)) w := by
  have hs : Try.prog.underlying 61 = some (.struct (Try.prog.fieldsOf 61)) := by kernel_rfl
  have h0 : Op.equal 61 (spotV6 p) (spotV6 q) = Op.equalIn 10000 61 (spotV6 p) (spotV6 q) := by
    simp [Op.equal, Op.maxDepth]
  rw [h0, show (10000 : Nat) = 9998 + 1 + 1 from rfl, spotV6, spotV6, run_equalIn_struct _ _ _ _ _ hs (by kernel_rfl)]
  have hf : (Try.prog.fieldsOf 61).toList = (match Try.prog.underlying 61 with | some (.struct fs) => fs.toList | _ => []) := by kernel_rfl
  rw [hf, Try.underlying61]
  obtain ⟨a1, a2⟩ := p
  obtain ⟨b1, b2⟩ := q
  simp [Op.eqFields, part, run_sizeOf, go_sem]
  have e1 : ((a1 : Int) = (b1 : Int)) = (a1 = b1) := propext Int.ofNat_inj
  have e2 : ((a2 : Int) = (b2 : Int)) = (a2 = b2) := propext Int.ofNat_inj
  simp only [e1, e2]
  by_cases q1 : a1 = b1 <;> by_cases q2 : a2 = b2 <;> simp [q1, q2]
theorem look_run {W : World} {M : Nat} {xs : List ByteArray} (h : MapIs byteV W M (spotL6 (keysFrom 0 xs))) (c : UInt8) (p : Nat × Nat) (hp : (look6 c (keysFrom 0 xs)).getD (0, 0) = p) :
    (Instr.lookup 57 (.map (some M)) (.int .u8 (c.toNat : Int)) false).run Try.prog W = .ok (.agg #[.int .i64 (p.1 : Int), .int .i64 (p.2 : Int)]) W := by
  have := h.look1 byteKey6 Try.underlying57 (zero_spot6 W) c
  rw [val_spot6] at this
  rw [show (Value.int .u8 (c.toNat : Int)) = byteV c from rfl, this, ← hp]
  cases look6 c (keysFrom 0 xs) <;> rfl
set_option maxHeartbeats 1600000 in
theorem movedFn_any (xs ys : List ByteArray) (R Q M1 M2 : Nat) (c : UInt8) (W : World) (hR : W.cell? ⟨R, 0, none⟩ = some (.map (some M1))) (hQ : W.cell? ⟨Q, 0, none⟩ = some (.map (some M2))) (h1 : MapIs byteV W M1 (spotL6 (keysFrom 0 xs))) (h2 : MapIs byteV W M2 (spotL6 (keysFrom 0 ys))) :
    Calls Try.prog 63 #[.string ⟨#[c]⟩, .pointer (some ⟨R, 0, none⟩), .pointer (some ⟨Q, 0, none⟩)] W fun e w' => e = .returned (.bool (movedB xs ys c)) ∧ Below W.heap.size W w' := by
  have hv : Hid (movedB xs ys c = !decide ((look6 c (keysFrom 0 xs)).getD (0, 0) = (look6 c (keysFrom 0 ys)).getD (0, 0))) := Lib.hid (by unfold movedB; simp)
  generalize hp1 : (look6 c (keysFrom 0 xs)).getD (0, 0) = p1 at *
  generalize hp2 : (look6 c (keysFrom 0 ys)).getD (0, 0) = p2 at *
  replace hp1 := Lib.hid hp1
  replace hp2 := Lib.hid hp2
  generalize movedB xs ys c = v at *
  have hRl := World.block_lt_of_cell? _ _ hR
  have hQl := World.block_lt_of_cell? _ _ hQ
  go_enter Try.func63, Try.ntmps63
  go_wp2_with fail
  refine wp_region_held_drew (S := fun w' => Below W.heap.size W w' ∧ w'.cell? ⟨R, 0, none⟩ = some (.map (some M1)) ∧ w'.cell? ⟨Q, 0, none⟩ = some (.map (some M2)) ∧ MapIs byteV w' M1 (spotL6 (keysFrom 0 xs)) ∧ MapIs byteV w' M2 (spotL6 (keysFrom 0 ys))) (by kernel_rfl) ?_ (fun hHeld => ?_)
  · exact ⟨(Below.refl _ _).drew, hR, hQ, h1, h2⟩
  refine wpAnyH_take (i := 0) (v := ?vmv0) rfl (by kernel_rfl) (by kernel_rfl) (by kernel_rfl) (fun _ _ _ h => h) (Or.inl ⟨rfl, ?ymv0⟩) (by assumption) ?_
  case ymv0 => (intro w hSw; (try dsimp only at hSw); go_simp; first | done | with_reducible rfl)
  simp only [List.getElem_toArray, List.getElem_cons_succ, List.getElem_cons_zero, Act.put, List.setIfInBounds_toArray, List.set_cons_zero, List.set_cons_succ]
  refine wpAnyH_take (i := 1) (v := ?vmv1) rfl (by kernel_rfl) (by kernel_rfl) (by kernel_rfl) (fun _ _ _ h => h) (Or.inl ⟨rfl, ?ymv1⟩) (by assumption) ?_
  case ymv1 => (intro w hSw; (try dsimp only at hSw); go_simp; first | done | with_reducible rfl)
  simp only [List.getElem_toArray, List.getElem_cons_succ, List.getElem_cons_zero, Act.put, List.setIfInBounds_toArray, List.set_cons_zero, List.set_cons_succ]
  refine wpAnyH_take (i := 2) (v := ?vmv2) rfl (by kernel_rfl) (by kernel_rfl) (by kernel_rfl) (fun _ _ _ h => h) (Or.inl ⟨rfl, ?ymv2⟩) (by assumption) ?_
  case ymv2 => (intro w hSw; (try dsimp only at hSw); go_simp; first | done | with_reducible rfl)
  simp only [List.getElem_toArray, List.getElem_cons_succ, List.getElem_cons_zero, Act.put, List.setIfInBounds_toArray, List.set_cons_zero, List.set_cons_succ]
  refine wpAnyH_take (i := 3) (v := ?vmv3) rfl (by kernel_rfl) (by kernel_rfl) (by kernel_rfl) (fun _ _ _ h => h) (Or.inl ⟨rfl, ?ymv3⟩) (by assumption) ?_
  case ymv3 => (intro w hSw; have hl1 : (Instr.lookup 57 (.map (some M1)) (.int .u8 (((⟨#[c]⟩ : ByteArray)[0]'Nat.zero_lt_one).toNat : Int)) false).run Try.prog w = .ok (.agg #[.int .i64 (p1.1 : Int), .int .i64 (p1.2 : Int)]) w := look_run hSw.2.2.2.1 c _ hp1.out; (try dsimp only at hSw); go_simp; first | done | with_reducible rfl)
  simp only [List.getElem_toArray, List.getElem_cons_succ, List.getElem_cons_zero, Act.put, List.setIfInBounds_toArray, List.set_cons_zero, List.set_cons_succ]
  refine wpAnyH_take (i := 4) (v := ?vmv4) rfl (by kernel_rfl) (by kernel_rfl) (by kernel_rfl) (fun _ _ _ h => h) (Or.inl ⟨rfl, ?ymv4⟩) (by assumption) ?_
  case ymv4 => (intro w hSw; (try dsimp only at hSw); go_simp; first | done | with_reducible rfl)
  simp only [List.getElem_toArray, List.getElem_cons_succ, List.getElem_cons_zero, Act.put, List.setIfInBounds_toArray, List.set_cons_zero, List.set_cons_succ]
  refine wpAnyH_take (i := 5) (v := ?vmv5) rfl (by kernel_rfl) (by kernel_rfl) (by kernel_rfl) (fun _ _ _ h => h) (Or.inl ⟨rfl, ?ymv5⟩) (by assumption) ?_
  case ymv5 => (intro w hSw; (try dsimp only at hSw); go_simp; first | done | with_reducible rfl)
  simp only [List.getElem_toArray, List.getElem_cons_succ, List.getElem_cons_zero, Act.put, List.setIfInBounds_toArray, List.set_cons_zero, List.set_cons_succ]
  refine wpAnyH_take (i := 6) (v := ?vmv6) rfl (by kernel_rfl) (by kernel_rfl) (by kernel_rfl) (fun _ _ _ h => h) (Or.inl ⟨rfl, ?ymv6⟩) (by assumption) ?_
  case ymv6 => (intro w hSw; (try dsimp only at hSw); go_simp; first | done | with_reducible rfl)
  simp only [List.getElem_toArray, List.getElem_cons_succ, List.getElem_cons_zero, Act.put, List.setIfInBounds_toArray, List.set_cons_zero, List.set_cons_succ]
  refine wpAnyH_take (i := 7) (v := ?vmv7) rfl (by kernel_rfl) (by kernel_rfl) (by kernel_rfl) (fun _ _ _ h => h) (Or.inl ⟨rfl, ?ymv7⟩) (by assumption) ?_
  case ymv7 => (intro w hSw; have hl2 : (Instr.lookup 57 (.map (some M2)) (.int .u8 (((⟨#[c]⟩ : ByteArray)[0]'Nat.zero_lt_one).toNat : Int)) false).run Try.prog w = .ok (.agg #[.int .i64 (p2.1 : Int), .int .i64 (p2.2 : Int)]) w := look_run hSw.2.2.2.2 c _ hp2.out; (try dsimp only at hSw); go_simp; first | done | with_reducible rfl)
  simp only [List.getElem_toArray, List.getElem_cons_succ, List.getElem_cons_zero, Act.put, List.setIfInBounds_toArray, List.set_cons_zero, List.set_cons_succ]
  refine wpAnyH_take (i := 8) (v := .bool (!decide (p1 = p2))) rfl (by kernel_rfl) (by kernel_rfl) (by kernel_rfl) (fun _ _ _ h => h) (Or.inl ⟨rfl, ?ymv8⟩) (by assumption) ?_
  case ymv8 =>
    intro w hSw
    go_simp
    obtain ⟨a1, a2⟩ := p1
    obtain ⟨b1, b2⟩ := p2
    have e1 : ((a1 : Int) = (b1 : Int)) = (a1 = b1) := propext Int.ofNat_inj
    have e2 : ((a2 : Int) = (b2 : Int)) = (a2 = b2) := propext Int.ofNat_inj
    simp only [e1, e2]
    by_cases q1 : a1 = b1 <;> by_cases q2 : a2 = b2 <;> simp [q1, q2]
  simp only [List.getElem_toArray, List.getElem_cons_succ, List.getElem_cons_zero, Act.put, List.setIfInBounds_toArray, List.set_cons_zero, List.set_cons_succ]
  refine wpAnyH_take (i := 9) (v := ?vmv9) rfl (by kernel_rfl) (by kernel_rfl) (by kernel_rfl) (fun _ _ _ h => h) (Or.inl ⟨rfl, ?ymv9⟩) (by assumption) ?_
  case ymv9 => (intro w hSw; (try dsimp only at hSw); go_simp; first | done | with_reducible rfl)
  simp only [List.getElem_toArray, List.getElem_cons_succ, List.getElem_cons_zero, Act.put, List.setIfInBounds_toArray, List.set_cons_zero, List.set_cons_succ]
  refine wpAnyH_done (by kernel_rfl) ?_ _
  go_wp2
  go_ret
  exact ⟨by rw [hv.out]; rfl, hHeld.1⟩
set_option maxHeartbeats 1600000 in
theorem mov_impl (A : Option Addr) (n c : Nat) (xs : List ByteArray) (B : Option Addr) (m d : Nat) (ys : List ByteArray) (w : World) (h : Strs w A n xs) (hn : n ≤ 1048576) (hs : ∀ s ∈ xs, s.size ≤ 1048576) (h' : Strs w B m ys) (hm : m ≤ 1048576) (hs' : ∀ s ∈ ys, s.size ≤ 1048576) :
    Calls Try.prog 26 #[.agg #[.slice A n c], .agg #[.slice B m d]] w fun e w' => e = .returned (.tuple #[.string (movR xs ys).1, .int .i64 (movR xs ys).2]) ∧ Below w.heap.size w w' := by
  have hb0 := Lib.hid (below_a2 w (.cells #[.slice A n c] 27) (.cells #[.slice B m d] 27))
  have hq := Lib.hid (cmp_any A n c xs B m d ys _ (h.below hb0.out) hn hs (h'.below hb0.out) hm hs')
  go_enter Try.func26, Try.ntmps26
  go_wp2_with fail
  refine hq.out.mono ?_
  rintro e w1 (⟨h1, M1, M2, rfl, hM0, hN0, hM1, hN1, hb1⟩ | ⟨h1, rfl, hb1⟩)
  · have hbw := Lib.hid (hb0.out.step hb1)
    have hres : Hid (movR xs ys = (⟨(rng.filter (movedB xs ys)).toArray⟩, 0)) := Lib.hid (by simp [movR, h1])
    have hb2 := Lib.hid (below_a2 w1 (.cells #[.map (some M1)] 57) (.cells #[.map (some M2)] 57))
    have c1 : ((w1.alloc (.cells #[.map (some M1)] 57)).alloc (.cells #[.map (some M2)] 57)).cell? ⟨w1.heap.size, 0, none⟩ = some (.map (some M1)) := cell_on (cell_new rfl rfl) _
    have c2 : ((w1.alloc (.cells #[.map (some M1)] 57)).alloc (.cells #[.map (some M2)] 57)).cell? ⟨w1.heap.size + 1, 0, none⟩ = some (.map (some M2)) := cell_new (by simp) rfl
    have hM2 := hM1.below hb2.out hM1.lt
    have hN2 := hN1.below hb2.out hN1.lt
    have hw2 := Lib.hid (with_moved (movedB xs ys) (.pointer (some ⟨w1.heap.size, 0, none⟩)) (.pointer (some ⟨w1.heap.size + 1, 0, none⟩)) _ (fun z hz W hW => movedFn_any xs ys w1.heap.size (w1.heap.size + 1) M1 M2 z W (cell_step c1 hW) (cell_step c2 hW) (hM2.below hW hM2.lt) (hN2.below hW hN2.lt)))
    have hmf := fun (W : World) => (rfl : (Instr.makeFunc (.func 63) #[] #[.pointer (some ⟨w1.heap.size, 0, none⟩), .pointer (some ⟨w1.heap.size + 1, 0, none⟩)]).run Try.prog W = _)
    clear h1 hb1 hM1 hN1 hM2 hN2 c1 c2
    go_wp2_with fail
    refine hw2.out.mono ?_
    rintro e w5 ⟨rfl, hb5⟩
    have hbf := Lib.hid ((hbw.out.step hb2.out).step hb5)
    go_wp2
    go_ret2
    exact ⟨by rw [hres.out]; rfl, hbf.out⟩
  · have hbw := Lib.hid (hb0.out.step hb1)
    have hres : Hid (movR xs ys = (⟨#[]⟩, bothCode xs ys)) := Lib.hid (by simp [movR, h1])
    generalize bothCode xs ys = code at *
    have g0 : (code == 0) = false := beq_eq_false_iff_ne.2 h1
    have g1 : (code != 0) = true := by simp [h1]
    clear h1
    go_wp2
    go_ret2
    exact ⟨by rw [hres.out]; rfl, hbw.out.step (below_a2 _ _ _)⟩
end Go.Proofs.Yticggclpaalhgaa
