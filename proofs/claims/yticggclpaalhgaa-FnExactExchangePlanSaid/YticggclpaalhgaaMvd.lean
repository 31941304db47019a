/- MovedLetters: the model's function. -/
import Derived.Test.YticggclpaalhgaaDst0
import Derived.Test.YticggclpaalhgaaLet6
namespace Go.Proofs.Yticggclpaalhgaa
open Go.RowKit Go.ChangeMaps Go.MapKept
set_option linter.unusedVariables false
set_option linter.unusedSimpArgs false

def mvF (ys : List ByteArray) (S : Spots) (x : UInt8) : Bool := S.any fun e => movedE ys e && decide (x = e.1)
def movR (xs ys : List ByteArray) : ByteArray × Int := if bothCode xs ys = 0 then (⟨(rng.filter (movedB xs ys)).toArray⟩, 0) else (⟨#[]⟩, bothCode xs ys)
theorem mv_same {ys : List ByteArray} {S : Spots} {e : UInt8 × Nat × Nat} (h : movedE ys e = false) : rng.filter (mvF ys (S ++ [e])) = rng.filter (mvF ys S) := List.filter_congr fun x _ => by simp [mvF, h]
theorem mv_put {ys : List ByteArray} {S : Spots} {e : UInt8 × Nat × Nat} (h : movedE ys e = true) (hr : e.1 ∈ rng) : rng.filter (mvF ys (S ++ [e])) = putL e.1 (rng.filter (mvF ys S)) := by
  rw [rng_put hr]
  refine List.filter_congr fun x _ => ?_
  simp only [mvF, List.any_append, List.any_cons, List.any_nil, h, Bool.true_and, Bool.or_false]
  congr 1
theorem mv_end {xs ys : List ByteArray} (h : bothCode xs ys = 0) : rng.filter (mvF ys (keysFrom 0 xs)) = rng.filter (movedB xs ys) := List.filter_congr fun x _ => moved_is h x
theorem key_rng {xs : List ByteArray} (h : layOk xs = true) {r c : Nat} {s : ByteArray} {x : UInt8} (h1 : xs[r]? = some s) (h2 : s.data.toList[c]? = some x) : x ∈ rng := by
  have h5 := (rowOk6_iff.1 ((layOk_iff.1 h).2.1 s (List.mem_of_getElem? h1))).2
  have := (List.all_eq_true.1 h5) x (List.mem_of_getElem? h2)
  simp only [keyByte, Bool.and_eq_true, decide_eq_true_eq] at this
  exact rng_mem this.1.1 this.1.2
theorem shape_at {xs ys : List ByteArray} (h : sameShape xs ys = true) {r : Nat} {s t : ByteArray} (h1 : xs[r]? = some s) (h2 : ys[r]? = some t) : s.size = t.size := by
  have e := of_decide_eq_true h
  have q1 : (xs.map (·.size))[r]? = some s.size := by simp [h1]
  rw [e] at q1
  simpa [h2] using q1.symm
theorem shape_n {xs ys : List ByteArray} (h : sameShape xs ys = true) : xs.length = ys.length := by
  have := congrArg List.length (of_decide_eq_true h)
  simpa using this

set_option maxRecDepth 100000 in
set_option maxHeartbeats 3200000 in
theorem mov_spec (A : Option Addr) (n c : Nat) (xs : List ByteArray) (B : Option Addr) (m d : Nat) (ys : List ByteArray) (w : World) (h : Strs w A n xs) (hn : n ≤ 1048576) (hs : ∀ s ∈ xs, s.size ≤ 1048576) (h' : Strs w B m ys) (hm : m ≤ 1048576) (hs' : ∀ s ∈ ys, s.size ≤ 1048576) :
    Calls Try.prog 25 #[.agg #[.slice A n c], .agg #[.slice B m d]] w fun e w' => e = .returned (.tuple #[.string (movR xs ys).1, .int .i64 (movR xs ys).2]) ∧ Below w.heap.size w w' := by
  have hb0 := Lib.hid (below_a2 w (.cells #[.slice A n c] 27) (.cells #[.slice B m d] 27))
  have k0 : ((w.alloc (.cells #[.slice A n c] 27)).alloc (.cells #[.slice B m d] 27)).cell? ⟨w.heap.size, 0, none⟩ = some (.slice A n c) := cell_on (cell_new rfl rfl) _
  have k1 : ((w.alloc (.cells #[.slice A n c] 27)).alloc (.cells #[.slice B m d] 27)).cell? ⟨w.heap.size + 1, 0, none⟩ = some (.slice B m d) := cell_new (by simp) rfl
  have hX := h.below hb0.out
  have hY := h'.below hb0.out
  have hlx := Lib.hid h.1
  have hly := Lib.hid h'.1
  have hq := Lib.hid (both_spec w.heap.size (w.heap.size + 1) A n c xs B m d ys _ k0 k1 hX hn hs hY hm hs')
  by_cases hz : bothCode xs ys = 0
  · obtain ⟨⟨o1, o2⟩, o3, o4⟩ := bothCode_0 hz
    have hres : Hid (movR xs ys = (⟨(rng.filter (movedB xs ys)).toArray⟩, 0)) := Lib.hid (by simp [movR, hz])
    have hend := Lib.hid (mv_end hz)
    have hat0 := Lib.hid (fun (r c : Nat) (s t : ByteArray) (x y : UInt8) => moved_at hz (r := r) (c := c) (s := s) (t := t) (x := x) (y := y))
    have hrg := Lib.hid (fun (r c : Nat) (s : ByteArray) (x : UInt8) => key_rng o1 (r := r) (c := c) (s := s) (x := x))
    have hsh := Lib.hid (fun (r : Nat) (s t : ByteArray) => shape_at o3 (r := r) (s := s) (t := t))
    have hnm : n = m := by rw [← hlx.out, ← hly.out]; exact shape_n o3
    subst hnm
    rw [hz] at hq
    replace hs := Lib.hid hs
    clear hz o1 o2 o3 o4
    go_enter Try.func25, Try.ntmps25
    go_wp2_with fail
    refine hq.out.mono ?_
    rintro e w1 ⟨rfl, hb1⟩
    have hbw := Lib.hid (hb0.out.step hb1)
    replace k0 := cell_step k0 hb1
    replace k1 := cell_step k1 hb1
    replace hX := hX.below hb1
    replace hY := hY.below hb1
    clear hb1
    go_wp2
    go_loopw [7, 8, 9] (fun v i _ wr => ∃ r : Nat, r ≤ n ∧ i = .int .i64 r ∧ v = .string ⟨(rng.filter (mvF ys (keysFrom 0 (xs.take r)))).toArray⟩ ∧ Below w1.heap.size w1 wr) (fun _ i _ _ => n - (intOf i).toNat)
    case atStart => exact ⟨0, by omega, rfl, by rw [show rng.filter (mvF ys (keysFrom 0 (xs.take 0))) = [] from List.filter_eq_nil_iff.2 (fun a _ => by simp [mvF, keysFrom])], Below.refl _ _⟩
    case round =>
      obtain ⟨r, hr, rfl, rfl, hbr⟩ := hrel
      have p0 := cell_step k0 hbr
      by_cases hlt : r < n
      · obtain ⟨b, off, s, rfl, hb, hx, c0⟩ := str_at (hX.below hbr) hlt
        have hssz : s.size ≤ 1048576 := hs.out s (List.mem_of_getElem? hx.out)
        have hr0 : (0 : Int) ≤ (r : Int) := Int.natCast_nonneg _
        have hr1 : (r : Int) < (n : Int) := by omega
        have hz0 := Lib.hid (keysTo_zero (xs := xs) (r := r) (s := s))
        rw [← hz0.out]
        rename World => wa
        go_wp2
        go_loopw [7, 9] (fun v j wq => ∃ c' : Nat, c' ≤ s.size ∧ j = .int .i64 c' ∧ v = .string ⟨(rng.filter (mvF ys (keysTo xs r c' s))).toArray⟩ ∧ Below w1.heap.size w1 wq) (fun _ j _ => s.size - (intOf j).toNat)
        case atStart => exact ⟨0, by omega, rfl, rfl, hbr⟩
        case round =>
          rename World => wq
          obtain ⟨c', hc', rfl, rfl, hbq⟩ := hrel
          have r0 := cell_step k0 hbq
          have r1 := cell_step k1 hbq
          obtain ⟨_, _, s', e', _, hx2, c2⟩ := str_at (hX.below hbq) hlt
          cases e'
          obtain rfl : s' = s := by have h1 := hx2.out; rw [hx.out] at h1; exact (Option.some.inj h1).symm
          obtain ⟨b', off', t, rfl, hb', hy, d2⟩ := str_at (hY.below hbq) hlt
          have hst := hsh.out _ _ _ hx.out hy.out
          clear hx2 p0 c0
          by_cases hlt2 : c' < s'.size
          · have hlt3 : c' < t.size := by omega
            have hc0 : (0 : Int) ≤ (c' : Int) := Int.natCast_nonneg _
            have hc1 : (c' : Int) < (s'.size : Int) := by omega
            have hc2 : (c' : Int) < (t.size : Int) := by omega
            have hat := Lib.hid (bytes_at s' hlt2)
            have hat2 := Lib.hid (bytes_at t hlt3)
            have hmv := Lib.hid (hat0.out _ _ _ _ _ _ hx.out hy.out hat.out hat2.out)
            have hkn := Lib.hid (keysTo_next (xs := xs) (r := r) hlt2)
            have hmr := Lib.hid (hrg.out _ _ _ _ hx.out hat.out)
            by_cases heq : s'[c']'hlt2 = t[c']'hlt3
            · have hnx : Hid (rng.filter (mvF ys (keysTo xs r (c' + 1) s')) = rng.filter (mvF ys (keysTo xs r c' s'))) := Lib.hid (by rw [hkn.out]; exact mv_same (by rw [hmv.out, heq]; simp))
              have ge : (((s'[c']'hlt2).toNat : Int) == ((t[c']'hlt3).toNat : Int)) = true := by rw [heq]; exact beq_self_eq_true _
              have ge' : (((s'[c']'hlt2).toNat : Int) != ((t[c']'hlt3).toNat : Int)) = false := by rw [heq]; simp
              clear heq hat hat2
              go_wp2_with fail
              go_quiet (fail)
              go_wp2
              go_roundw
              case rel => exact ⟨c' + 1, by omega, by go_num, by rw [hnx.out], below_drewN hbq _⟩
              case measure => simp [intOf]; omega
            · have hnx : Hid (rng.filter (mvF ys (keysTo xs r (c' + 1) s')) = putL (s'[c']'hlt2) (rng.filter (mvF ys (keysTo xs r c' s')))) := Lib.hid (by rw [hkn.out]; exact mv_put (by rw [hmv.out]; simp [heq]) hmr.out)
              have ge : (((s'[c']'hlt2).toNat : Int) == ((t[c']'hlt3).toNat : Int)) = false := beq_eq_false_iff_ne.2 (fun e => heq (UInt8.toNat_inj.1 (by omega)))
              have ge' : (((s'[c']'hlt2).toNat : Int) != ((t[c']'hlt3).toNat : Int)) = true := by
                have : ¬ (((s'[c']'hlt2).toNat : Int) = ((t[c']'hlt3).toNat : Int)) := fun e => heq (UInt8.toNat_inj.1 (by omega))
                simp [this]
              have hsl := fun W => run_slice_string (P := Try.prog) W 9 s' .i64 .i64 (c' : Int) ((c' : Int) + 1) Try.underlying9 (by omega) (by omega) (by omega)
              rw [show (c' : Int).toNat = c' from rfl, show ((c' : Int) + 1).toNat = c' + 1 from rfl, ext_one6 hlt2] at hsl
              have hput := Lib.hid (fun W => put_is (mvF ys (keysTo xs r c' s')) (s'[c']'hlt2) W)
              rw [← hnx.out] at hput
              clear heq hat hat2 hnx
              go_wp2_with fail
              go_quiet (fail)
              go_wp2_with fail
              refine (hput.out _).mono ?_
              rintro e w5 ⟨rfl, hb5⟩
              have hb6 := Lib.hid ((below_drewN hbq _).step hb5)
              go_wp2
              go_roundw
              case rel => exact ⟨c' + 1, by omega, by go_num, rfl, hb6.out⟩
              case measure => simp [intOf]; omega
          · obtain rfl : c' = s'.size := by omega
            have hrow := Lib.hid (keysTo_row hx.out)
            rw [hrow.out]
            go_wp2
            go_roundw
            case rel => exact ⟨r + 1, by omega, by go_num, rfl, hbq⟩
            case measure => simp [intOf]; omega
      · obtain rfl : r = n := by omega
        have hfin : Hid (rng.filter (mvF ys (keysFrom 0 (xs.take r))) = rng.filter (movedB xs ys)) := Lib.hid (by rw [List.take_of_length_le (by rw [hlx.out]; exact Nat.le_refl _), hend.out])
        go_wp2
        go_ret2
        exact ⟨by rw [hres.out, ← hfin.out]; rfl, hbw.out.step hbr⟩
  · have hres : Hid (movR xs ys = (⟨#[]⟩, bothCode xs ys)) := Lib.hid (by simp [movR, hz])
    generalize bothCode xs ys = code at *
    have g0 : (code == 0) = false := beq_eq_false_iff_ne.2 hz
    have g1 : (code != 0) = true := by simp [hz]
    clear hz
    go_enter Try.func25, Try.ntmps25
    go_wp2_with fail
    refine hq.out.mono ?_
    rintro e w1 ⟨rfl, hb1⟩
    have hbw := Lib.hid (hb0.out.step hb1)
    go_wp2
    go_ret2
    exact ⟨by rw [hres.out]; rfl, hbw.out⟩
end Go.Proofs.Yticggclpaalhgaa
