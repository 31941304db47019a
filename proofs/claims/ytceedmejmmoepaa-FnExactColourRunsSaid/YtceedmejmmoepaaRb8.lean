/- Ribbons: the model's ColourRuns. -/
import Derived.Test.YtceedmejmmoepaaTxtB
import Derived.Test.YtceedmejmmoepaaOwn8
namespace Go.Proofs.Ytceedmejmmoepaa
open Go.RowKit Go.ChangeShapes Go.WideShapes Go.Deep
set_option linter.unusedVariables false
set_option linter.unusedSimpArgs false

def colC (c : UInt8) : Bool := decide (c.toNat = 98) || (decide (c.toNat = 114) || decide (c.toNat = 32))
def runF : UInt8 → List UInt8 → Nat
  | _, [] => 0
  | b, c :: r => if c.toNat = 32 ∨ c = b then runF b r else 1 + runF c r
def crR (s : ByteArray) : Int × Int := if s.data.toList.all colC = true then (if s.size ≤ 1000 then ((runF 98 s.data.toList : Int), 0) else (0, 2)) else (0, 7)
theorem drop_at14 {s : ByteArray} {k : Nat} (h : k < s.size) : s.data.toList.drop k = (s[k]'h) :: s.data.toList.drop (k + 1) := List.drop_eq_getElem_cons (l := s.data.toList) (i := k) h
theorem eq8y {a : UInt8} {n : Nat} (h : a.toNat = n) : ((a.toNat : Int) == (n : Int)) = true ∧ (a.toNat == n) = true := by
  subst h; simp
theorem eq8n {a : UInt8} {n : Nat} (h : ¬ a.toNat = n) : ((a.toNat : Int) == (n : Int)) = false ∧ (a.toNat == n) = false :=
  ⟨beq_eq_false_iff_ne.2 (by omega), beq_eq_false_iff_ne.2 h⟩
set_option maxRecDepth 100000 in
set_option maxHeartbeats 2400000 in
theorem cr14_spec (s : ByteArray) (w : World) (hs : s.size ≤ 1048576) :
    Calls Try.prog 29 #[.string s] w fun e w' => e = .returned (.tuple #[.int .i64 (crR s).1, .int .i64 (crR s).2]) ∧ Below w.heap.size w w' := by
  generalize hr : crR s = q
  replace hr := Lib.hid hr.symm
  go_enter Try.func29, Try.ntmps29
  go_wp2
  go_loopw [4] (fun i wr => ∃ k : Nat, k ≤ s.size ∧ i = .int .i64 (k : Int) ∧ w = wr ∧ s.data.toList.all colC = (s.data.toList.drop k).all colC) (fun i _ => s.size - (intOf i).toNat)
  case atStart => exact ⟨0, by omega, rfl, rfl, rfl⟩
  case round =>
    obtain ⟨k, hk, rfl, rfl, hall⟩ := hrel
    replace hall := Lib.hid hall
    by_cases hlt : k < s.size
    · have i0 : (0 : Int) ≤ (k : Int) := by omega
      have i1 : (k : Int) < (s.size : Int) := by omega
      have hwk : IntKind.i64.wrap ((k : Int) + 1) = ((k + 1 : Nat) : Int) := by rw [IntWalk.i64_in _ (by omega)]; omega
      have hdr := Lib.hid (drop_at14 hlt)
      have hrd := Lib.hid (show ∀ c : UInt8, c = s[k]'hlt → (s.data.toList.drop k).all colC = (colC c && (s.data.toList.drop (k + 1)).all colC) from fun c hc => by rw [hdr.out, List.all_cons, hc])
      by_cases h0 : (s[k]'hlt).toNat = 98
      · obtain ⟨a0, b0⟩ := eq8y h0
        simp only [show ((98 : Nat) : Int) = 98 from rfl] at a0
        have n0 : (((s[k]'hlt).toNat : Int) != 98) = false := by rw [bne, a0]; rfl
        have hcc : colC (s[k]'hlt) = true := by simp [colC, h0]
        have hv : Hid (s.data.toList.all colC = (s.data.toList.drop (k + 1)).all colC) := Lib.hid (by rw [hall.out, hrd.out _ rfl, hcc, Bool.true_and])
        clear hcc hrd hdr h0
        go_wp2
        go_roundw
        case rel => exact ⟨k + 1, by omega, by go_num, (by first | trivial | rfl), hv.out⟩
        case measure => simp [intOf]; omega
      · skip
        by_cases h1 : (s[k]'hlt).toNat = 114
        · obtain ⟨a0, b0⟩ := eq8n h0
          simp only [show ((98 : Nat) : Int) = 98 from rfl] at a0
          have n0 : (((s[k]'hlt).toNat : Int) != 98) = true := by rw [bne, a0]; rfl
          obtain ⟨a1, b1⟩ := eq8y h1
          simp only [show ((114 : Nat) : Int) = 114 from rfl] at a1
          have n1 : (((s[k]'hlt).toNat : Int) != 114) = false := by rw [bne, a1]; rfl
          have hcc : colC (s[k]'hlt) = true := by simp [colC, h0, h1]
          have hv : Hid (s.data.toList.all colC = (s.data.toList.drop (k + 1)).all colC) := Lib.hid (by rw [hall.out, hrd.out _ rfl, hcc, Bool.true_and])
          clear hcc hrd hdr h0 h1
          go_wp2
          go_roundw
          case rel => exact ⟨k + 1, by omega, by go_num, (by first | trivial | rfl), hv.out⟩
          case measure => simp [intOf]; omega
        · skip
          by_cases h2 : (s[k]'hlt).toNat = 32
          · obtain ⟨a0, b0⟩ := eq8n h0
            simp only [show ((98 : Nat) : Int) = 98 from rfl] at a0
            have n0 : (((s[k]'hlt).toNat : Int) != 98) = true := by rw [bne, a0]; rfl
            obtain ⟨a1, b1⟩ := eq8n h1
            simp only [show ((114 : Nat) : Int) = 114 from rfl] at a1
            have n1 : (((s[k]'hlt).toNat : Int) != 114) = true := by rw [bne, a1]; rfl
            obtain ⟨a2, b2⟩ := eq8y h2
            simp only [show ((32 : Nat) : Int) = 32 from rfl] at a2
            have n2 : (((s[k]'hlt).toNat : Int) != 32) = false := by rw [bne, a2]; rfl
            have hcc : colC (s[k]'hlt) = true := by simp [colC, h0, h1, h2]
            have hv : Hid (s.data.toList.all colC = (s.data.toList.drop (k + 1)).all colC) := Lib.hid (by rw [hall.out, hrd.out _ rfl, hcc, Bool.true_and])
            clear hcc hrd hdr h0 h1 h2
            go_wp2
            go_roundw
            case rel => exact ⟨k + 1, by omega, by go_num, (by first | trivial | rfl), hv.out⟩
            case measure => simp [intOf]; omega
          · skip
            obtain ⟨a0, b0⟩ := eq8n h0
            simp only [show ((98 : Nat) : Int) = 98 from rfl] at a0
            have n0 : (((s[k]'hlt).toNat : Int) != 98) = true := by rw [bne, a0]; rfl
            obtain ⟨a1, b1⟩ := eq8n h1
            simp only [show ((114 : Nat) : Int) = 114 from rfl] at a1
            have n1 : (((s[k]'hlt).toNat : Int) != 114) = true := by rw [bne, a1]; rfl
            obtain ⟨a2, b2⟩ := eq8n h2
            simp only [show ((32 : Nat) : Int) = 32 from rfl] at a2
            have n2 : (((s[k]'hlt).toNat : Int) != 32) = true := by rw [bne, a2]; rfl
            have hcc : colC (s[k]'hlt) = false := by simp [colC, h0, h1, h2]
            have hres : Hid (q = (0, 7)) := Lib.hid (by rw [hr.out, crR, hall.out, hrd.out _ rfl, hcc, Bool.false_and]; rfl)
            clear hcc hrd hdr hr h0 h1 h2
            go_wp2
            go_ret2
            exact ⟨ret8_2 hres.out, Below.refl _ _⟩
    · obtain rfl : k = s.size := by omega
      have g0 : decide ((s.size : Int) < (s.size : Int)) = false := decide_eq_false (by omega)
      have hyes : Hid (s.data.toList.all colC = true) := Lib.hid (by rw [hall.out, List.drop_of_length_le (show s.data.toList.length ≤ s.size from Nat.le_refl _)]; rfl)
      clear hall
      by_cases hb : s.size ≤ 1000
      · have g1 : decide ((1000 : Int) < (s.size : Int)) = false := decide_eq_false (by omega)
        have g2 : decide (1000 < s.size) = false := decide_eq_false (by omega)
        have hres : Hid (q = ((runF 98 s.data.toList : Int), 0)) := Lib.hid (by rw [hr.out, crR, if_pos hyes.out, if_pos hb])
        clear hr hyes
        go_wp2
        go_loopw [5, 6, 7] (fun m b i wr => ∃ (k n : Nat) (c : UInt8), k ≤ s.size ∧ n ≤ k ∧ m = .int .i64 (n : Int) ∧ b = .int .u8 (c.toNat : Int) ∧ i = .int .i64 (k : Int) ∧ w = wr ∧ runF 98 s.data.toList = n + runF c (s.data.toList.drop k)) (fun _ _ i _ => s.size - (intOf i).toNat)
        case atStart => exact ⟨0, 0, 98, by omega, by omega, rfl, rfl, rfl, rfl, by simp⟩
        case round =>
          obtain ⟨k, n, c, hk, hn, rfl, rfl, rfl, rfl, hrun⟩ := hrel
          replace hrun := Lib.hid hrun
          by_cases hlt : k < s.size
          · have i0 : (0 : Int) ≤ (k : Int) := by omega
            have i1 : (k : Int) < (s.size : Int) := by omega
            have hwk : IntKind.i64.wrap ((k : Int) + 1) = ((k + 1 : Nat) : Int) := by rw [IntWalk.i64_in _ (by omega)]; omega
            have hwn : IntKind.i64.wrap ((n : Int) + 1) = ((n + 1 : Nat) : Int) := by rw [IntWalk.i64_in _ (by omega)]; omega
            have hdr := Lib.hid (drop_at14 hlt)
            by_cases h1 : (s[k]'hlt).toNat = 32
            · obtain ⟨y1, y2⟩ := eq8y h1
              have y3 : ((s[k]'hlt).toNat : Int) = 32 := by omega
              have hv : Hid (runF 98 s.data.toList = n + runF c (s.data.toList.drop (k + 1))) := Lib.hid (by rw [hrun.out, hdr.out, runF, if_pos (.inl h1)])
              simp only [show ((32 : Nat) : Int) = 32 from rfl] at y1
              have n1 : (((s[k]'hlt).toNat : Int) != 32) = false := by rw [bne, y1]; rfl
              clear h1 hdr y3
              go_wp2
              go_roundw
              case rel => exact ⟨k + 1, n, c, by omega, by omega, rfl, rfl, by go_num, (by first | trivial | rfl), hv.out⟩
              case measure => simp [intOf]; omega
            · obtain ⟨y1, y2⟩ := eq8n h1
              simp only [show ((32 : Nat) : Int) = 32 from rfl] at y1
              have n1 : (((s[k]'hlt).toNat : Int) != 32) = true := by rw [bne, y1]; rfl
              by_cases h2 : s[k]'hlt = c
              · have z1 : (((s[k]'hlt).toNat : Int) == (c.toNat : Int)) = true := by rw [h2]; simp
                have z2 : ((s[k]'hlt).toNat == c.toNat) = true := by rw [h2]; simp
                have hv : Hid (runF 98 s.data.toList = n + runF c (s.data.toList.drop (k + 1))) := Lib.hid (by rw [hrun.out, hdr.out, runF, if_pos (.inr h2)])
                have n2 : (((s[k]'hlt).toNat : Int) != (c.toNat : Int)) = false := by rw [bne, z1]; rfl
                clear h1 h2 hdr
                go_wp2
                go_roundw
                case rel => exact ⟨k + 1, n, c, by omega, by omega, rfl, rfl, by go_num, (by first | trivial | rfl), hv.out⟩
                case measure => simp [intOf]; omega
              · have hne : (s[k]'hlt).toNat ≠ c.toNat := fun e => h2 (UInt8.toNat_inj.1 e)
                have z1 : (((s[k]'hlt).toNat : Int) == (c.toNat : Int)) = false := beq_eq_false_iff_ne.2 (by omega)
                have z2 : ((s[k]'hlt).toNat == c.toNat) = false := beq_eq_false_iff_ne.2 hne
                have hv : Hid (runF 98 s.data.toList = n + 1 + runF (s[k]'hlt) (s.data.toList.drop (k + 1))) := Lib.hid (by rw [hrun.out, hdr.out, runF, if_neg (fun h => h.elim h1 h2)]; omega)
                have n2 : (((s[k]'hlt).toNat : Int) != (c.toNat : Int)) = true := by rw [bne, z1]; rfl
                clear h1 h2 hdr hne
                go_wp2
                go_roundw
                case rel => exact ⟨k + 1, n + 1, s[k]'hlt, by omega, by omega, by go_num, rfl, by go_num, (by first | trivial | rfl), hv.out⟩
                case measure => simp [intOf]; omega
          · obtain rfl : k = s.size := by omega
            have hv : Hid (q = ((n : Int), 0)) := Lib.hid (by
              rw [hres.out, hrun.out, List.drop_of_length_le (show s.data.toList.length ≤ s.size from Nat.le_refl _), runF]; rfl)
            clear hrun
            go_wp2
            go_ret2
            exact ⟨ret8_2 hv.out, Below.refl _ _⟩
      · have g1 : decide ((1000 : Int) < (s.size : Int)) = true := decide_eq_true (by omega)
        have g2 : decide (1000 < s.size) = true := decide_eq_true (by omega)
        have hres : Hid (q = (0, 2)) := Lib.hid (by rw [hr.out, crR, if_pos hyes.out, if_neg hb])
        clear hr hyes
        go_wp2
        go_ret2
        exact ⟨ret8_2 hres.out, Below.refl _ _⟩
end Go.Proofs.Ytceedmejmmoepaa
