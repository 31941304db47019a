/- Plans that are run: the program's function. -/
import Derived.Test.YtcmmcgjpaabnoaaDoorRn2
import Derived.Laws.Cover4
namespace Go.Proofs.YtcmmcgjpaabnoaaDoor
open Go.RowKit Go.ChangeShapes Go.WideShapes Go.Deep
set_option linter.unusedVariables false
set_option linter.unusedSimpArgs false

theorem stp_at2 {w : World} {A : Option Addr} {n k : Nat} {L : List Stp} (h : SRow 2 stpC w A n L) (hk : k < n) :
    ∃ b off x, A = some ⟨b, off, none⟩ ∧ b < w.heap.size ∧ Hid (L[k]? = some x) ∧ w.cell? ⟨b, off + k * 2, none⟩ = some (.int .i32 (x.1.toNat : Int)) ∧ w.cell? ⟨b, off + k * 2 + 1, none⟩ = some (.bool x.2) := by
  obtain ⟨b, off, x, e, hb, hx, hc⟩ := h.at_ hk
  exact ⟨b, off, x, e, hb, Lib.hid hx, hc 0 _ rfl, hc 1 _ rfl⟩
theorem enc11 (c : UInt8) (h : c.toNat < 128) : Utf8.encode (c.toNat : Int) = ⟨#[c]⟩ := by
  have h1 : ∀ n : Nat, n < 128 → Utf8.encode (n : Int) = ⟨#[UInt8.ofNat n]⟩ := by decide
  rw [h1 _ h]
  simp
theorem runes11 : ∀ (l : List UInt8) (r : ByteArray), (∀ x ∈ l, x.toNat < 128) → (l.map fun c : UInt8 => (c.toNat : Int)).foldl (fun r n => r ++ Utf8.encode n) r = ⟨(r.data.toList ++ l).toArray⟩
  | [], r, _ => by simp
  | c :: l, r, h => by
    rw [List.map_cons, List.foldl_cons, enc11 c (h c (by simp)), runes11 l _ (fun x hx => h x (by simp [hx]))]
    simp
theorem runesB11 (l : List UInt8) (h : ∀ x ∈ l, x.toNat < 128) : runesBytes (l.map fun c : UInt8 => (c.toNat : Int)) = ⟨l.toArray⟩ := by
  rw [runesBytes, runes11 l _ h]
  rfl
theorem rf30 : Conv.runesFrom (repB 32 30) (repB 32 30).size 0 #[] = (List.replicate 30 (Value.int .i32 32)).toArray := by kernel_rfl
/-- The thirty blanks as runes. -/
theorem runes30 (w : World) : ∃ cap w', (convert 9 36 (.string (repB 32 30))).run Tryd.prog w = .ok (.slice (some ⟨w.heap.size, 0, none⟩) 30 cap) w' ∧ 30 ≤ cap ∧ Below w.heap.size w w' ∧ w.heap.size < w'.heap.size ∧
    (∀ (j : Nat) x, (List.replicate 30 (32 : UInt8))[j]? = some x → w'.cell? ⟨w.heap.size, j, none⟩ = some (.int .i32 (x.toNat : Int))) ∧ (∀ j, w'.frozen? ⟨w.heap.size, j, none⟩ = false) := by
  have h := run_runes_of_string (P := Tryd.prog) w 9 36 21 (repB 32 30) Tryd.underlying9 Tryd.underlying36 (by kernel_rfl) (by rw [rf30]; simp)
  rw [rf30] at h
  have hsz : ((List.replicate 30 (Value.int .i32 32)).toArray).size = 30 := by simp
  rw [hsz] at h
  refine ⟨_, _, h, grownCap_ge w 30 0 _, ((Below.refl _ w).drew).alloc (Nat.le_refl _) _, by simp, fun j x hx => ?_, fun j => own_frozen (heap_alloc_new w.drew _) j⟩
  obtain ⟨h1, h2⟩ := List.getElem?_eq_some_iff.1 hx
  rw [List.getElem_replicate] at h2
  subst h2
  have hj : j < 30 := by simpa using h1
  refine own_cell (heap_alloc_new w.drew _) ?_
  rw [Array.getElem?_append_left (by simpa using hj), List.getElem?_toArray, List.getElem?_replicate, if_pos hj]
  rfl
def RuOut (r : ByteArray × Int) (w : World) (e : Ending) (w' : World) : Prop := e = .returned (.tuple #[.string r.1, .int .i64 r.2]) ∧ Below w.heap.size w w'
theorem ru_bad {ps : List Int} {s : ByteArray} (h1 : stB ps = true) (h : 200 < s.size ∨ stF false s.data.toList = none) : ruR ps s = (ByteArray.empty, 7) := by
  rw [ru_do ps s h1]
  by_cases h2 : 200 < s.size
  · rw [if_pos h2]
  · rw [if_neg h2, h.resolve_left h2]
theorem ru_ok {ps : List Int} {s : ByteArray} {S : List Stp} (h1 : stB ps = true) (h2 : s.size ≤ 200) (h : stF false s.data.toList = some S) : ruR ps s = match doF ps S (List.replicate 30 32) 0 with | none => (ByteArray.empty, (7 : Int)) | some L => (⟨(Lib.trimRightB L 32).toArray⟩, 0) := by
  rw [ru_do ps s h1, if_neg (by omega), h]
  rfl
set_option maxRecDepth 100000 in
set_option maxHeartbeats 3200000 in
theorem ruW11 (A : Option Addr) (n c : Nat) (ps : List Int) (s : ByteArray) (w : World) (h : Ints w A n ps) (hn : n ≤ 1048576) (hs : s.size ≤ 1048576) {r : ByteArray × Int} (hr : ruR ps s = r) :
    Calls Tryd.prog 6 #[.slice A n c, .string s] w (RuOut r w) := by
  cases h1 : stB ps with
  | false =>
    have hc := Lib.hid (vs11_implV A n c ps h1 w h hn)
    have hrr : Hid (r = (ByteArray.empty, 1)) := Lib.hid (by rw [← hr, ruR, if_neg (by rw [h1]; simp)])
    clear h1 hr h
    go_enter Tryd.func6, Tryd.ntmps6
    go_wp2_with fail
    refine hc.out.mono ?_
    rintro e w1 ⟨rfl, rfl⟩
    go_wp2
    go_ret2
    exact ⟨by rw [hrr.out]; rfl, Below.refl _ _⟩
  | true =>
    have hc := Lib.hid (vs11_implV A n c ps h1 w h hn)
    have hc2 := Lib.hid (readPlan11 s hs w)
    have h6 : n ≤ 6 := by have := (stB_parts h1).1; rw [h.1] at this; exact this
    have hst := Lib.hid h1
    replace hr := Lib.hid hr
    go_enter Tryd.func6, Tryd.ntmps6
    go_wp2_with fail
    refine hc.out.mono ?_
    rintro e w1 ⟨rfl, rfl⟩
    go_wp2_with fail
    refine hc2.out.mono ?_
    rintro e w1 ⟨hb1, ⟨S, A', c', hS, hSs, hs2, rfl, hrow⟩ | ⟨hbad, v, rfl⟩⟩
    · have hru := Lib.hid (ru_ok hst.out hs2 hS)
      have hlet := Lib.hid (st_let _ _ false S (Nat.le_refl _) hS)
      have hc3 := Lib.hid (movesWith11 A n c ps w1 (h.below hb1) h6)
      clear hS h1 hc hc2
      go_wp2_with fail
      refine hc3.out.mono ?_
      rintro e w2 ⟨M, rfl, hM, hb2⟩
      obtain ⟨g, B, A2, n2, c2, rfl, hMv⟩ := hM
      have hc4 := Lib.hid (blanks10_impl 30 (by omega) w2)
      go_wp2_with fail
      refine hc4.out.mono ?_
      rintro e w3 ⟨rfl, hb3⟩
      obtain ⟨cap, w4, hcv, hcap, hb4, hz4, hlt4, hfz4⟩ := runes30 w3
      replace hlt4 := Lib.hid hlt4
      replace hfz4 := Lib.hid hfz4
      go_wp2_with fail
      have hgL : g < w2.heap.size := World.block_lt_of_cell? _ _ hMv.c0
      have hb24 : Below w2.heap.size w2 w4 := hb3.trans (hb4.mono hb3.size)
      have hbw1 : Below w.heap.size w w2 := hb1.trans (hb2.mono hb1.size)
      have hz3 := hb3.size
      have hz2 := hb2.size
      obtain ⟨w5, hw5⟩ : ∃ w5, w4.alloc (.cells #[.slice (some ⟨g, 0, none⟩) 3 3, .int .i64 0, .slice (some ⟨w3.heap.size, 0, none⟩) 30 cap] 39) = w5 := ⟨_, rfl⟩
      have hb45 : Below w4.heap.size w4 w5 := by rw [← hw5]; exact below_a1 _ _
      have hT0 : TRow w4.heap.size w3.heap.size cap (.slice (some ⟨g, 0, none⟩) 3 3) (List.replicate 30 32) 0 w5 := by
        refine ⟨?_, ?_, ?_, ?_, fun j x hx => cell_step (hlt4.out j x hx) hb45, fun j => (hb45.frozen (p := ⟨w3.heap.size, j, none⟩) hz4).trans (hfz4.out j), by omega, by simp, by omega⟩
        · rw [← hw5]; exact cell_new rfl rfl
        · rw [← hw5]; exact cell_new rfl rfl
        · rw [← hw5]; exact cell_new rfl rfl
        · rw [← hw5]; exact own_frozen (heap_alloc_new _ _) 1
      have hb25 := hb24.trans (hb45.mono (by omega))
      rw [hw5]
      clear hw5 hcv hc3 hc4
      go_loopw [28] (fun i wr => ∃ (k : Nat) (L' : List UInt8) (a' : Nat), k ≤ S.length ∧ i = .int .i64 (k : Int) ∧ TRow w4.heap.size w3.heap.size cap (.slice (some ⟨g, 0, none⟩) 3 3) L' a' wr ∧ Below w2.heap.size w2 wr ∧ (∀ y ∈ L', y.toNat < 128) ∧ doF ps S (List.replicate 30 32) 0 = doF ps (S.drop k) L' a') (fun i _ => S.length - (intOf i).toNat)
      case atStart => exact ⟨0, _, 0, by omega, rfl, hT0, hb25, fun y hy => by rw [(List.mem_replicate.1 hy).2]; decide, rfl⟩
      case round =>
        rename World => wr
        obtain ⟨k, L', a', hk, rfl, hT, hbr, hasc, he⟩ := hrel
        replace he := Lib.hid he
        replace hasc := Lib.hid hasc
        clear hT0 hb25
        have hbw : Hid (Below w.heap.size w wr) := Lib.hid (hbw1.trans (hbr.mono hbw1.size))
        have hzr := hbr.size
        by_cases hlt : k < S.length
        · obtain ⟨b, off, x, rfl, hb, hx, s0, s1⟩ := stp_at2 (hrow.below (hb2.trans (hbr.mono hb2.size))) hlt
          have hk0 : (0 : Int) ≤ (k : Int) := Int.natCast_nonneg _
          have hk1 : (k : Int) < (S.length : Int) := by omega
          have hxl := hlet.out x (List.mem_of_getElem? hx.out)
          obtain ⟨wm, hwm⟩ : ∃ wm, wr.alloc (.cells #[.int .i32 (x.1.toNat : Int), .bool x.2] 41) = wm := ⟨_, rfl⟩
          have hbm : Below wr.heap.size wr wm := by rw [← hwm]; exact below_a1 _ _
          have f0 : wm.cell? ⟨wr.heap.size, 0, none⟩ = some (.int .i32 (x.1.toNat : Int)) := by rw [← hwm]; exact cell_new rfl rfl
          have f1 : wm.cell? ⟨wr.heap.size, 1, none⟩ = some (.bool x.2) := by rw [← hwm]; exact cell_new rfl rfl
          have hbm2 := hbr.trans (hbm.mono hzr)
          have hdo := Lib.hid (do_step w2.heap.size w4.heap.size w3.heap.size cap g B A2 n2 c2 ps L' a' x hxl hcap wm (hMv.below hbm2) hst.out (hT.below hbm) (by omega) hz3 (by omega))
          have hdr := Lib.hid (show S.drop k = x :: S.drop (k + 1) by
            obtain ⟨h1, h2⟩ := List.getElem?_eq_some_iff.1 hx.out
            rw [List.drop_eq_getElem_cons h1, h2])
          replace hT := Lib.hid hT
          replace hxl := Lib.hid hxl
          go_wp2_with fail
          refine hdo.out.mono ?_
          rintro e w6 ⟨hb6, ⟨rfl, hno⟩ | ⟨rfl, L2, a2, hT2, hmem, hgo⟩⟩
          · have hrr : Hid (r = (ByteArray.empty, 7)) := Lib.hid (by rw [← hr.out, hru.out, he.out, hdr.out, hno])
            have hbf := Lib.hid (hbw1.trans ((hbm2.trans hb6).mono hbw1.size))
            clear hno
            go_wp2
            go_ret2
            exact ⟨by rw [hrr.out]; rfl, hbf.out⟩
          · have hnx : Hid (doF ps S (List.replicate 30 32) 0 = doF ps (S.drop (k + 1)) L2 a2) := Lib.hid (by rw [he.out, hdr.out, hgo])
            have hbf := Lib.hid (hbm2.trans hb6)
            have hasc2 : Hid (∀ y ∈ L2, y.toNat < 128) := Lib.hid (fun y hy => by
              rcases hmem y hy with h1 | h1
              · exact hasc.out y h1
              · subst h1
                cases hx2 : x.2 with
                | true =>
                  have := hxl.out.1 hx2
                  simp only [letQ, Bool.and_eq_true, decide_eq_true_eq] at this
                  omega
                | false =>
                  have := hxl.out.2 hx2
                  have h3 : x.1.toNat = 35 ∨ x.1.toNat = 60 ∨ x.1.toNat = 62 := by simpa [mvQ] using this
                  omega)
            replace hT2 := Lib.hid hT2
            clear hgo hmem
            go_wp2
            go_roundw
            case rel => exact ⟨k + 1, L2, a2, by omega, by go_num, hT2.out, hbf.out, hasc2.out, hnx.out⟩
            case measure => simp [intOf]; omega
        · obtain rfl : k = S.length := by omega
          rw [List.drop_length] at he
          have hrr : Hid (r = (⟨(Lib.trimRightB L' 32).toArray⟩, 0)) := Lib.hid (by rw [← hr.out, hru.out, he.out]; rfl)
          have t2 := hT.c2
          have hlen := hT.len
          have hcv2 := run_convert_runes (P := Tryd.prog) wr 36 9 21 ⟨w3.heap.size, 0, none⟩ 30 cap (L'.map fun c : UInt8 => (c.toNat : Int)) (by rw [List.length_map, hlen]; exact Nat.le_refl _) Tryd.underlying36 (by kernel_rfl) Tryd.underlying9 (fun j hj => by
            rw [List.length_map] at hj
            rw [Addr.add_lit, Nat.zero_add, hT.let_ j L'[j] (List.getElem?_eq_getElem hj)]
            simp [List.getD, hj])
          rw [show (L'.map fun c : UInt8 => (c.toNat : Int)).take 30 = L'.map fun c : UInt8 => (c.toNat : Int) from List.take_of_length_le (by rw [List.length_map, hlen]; exact Nat.le_refl _), runesB11 L' hasc.out] at hcv2
          have htr := Lib.hid (fun W => Tryd.strings_TrimRight_one ⟨L'.toArray⟩ 32 (by decide) W (by simp [ByteArray.size, hlen]))
          have hlt := hT.lt
          replace hT := Lib.hid hT
          replace hlen := Lib.hid hlen
          go_wp2_with fail
          refine (htr.out _).mono ?_
          rintro e w6 ⟨rfl, rfl⟩
          go_wp2
          go_ret2
          exact ⟨by rw [hrr.out]; rfl, hbw.out⟩
    · have hrr : Hid (r = (ByteArray.empty, 7)) := Lib.hid (by rw [← hr.out, ru_bad hst.out hbad])
      go_wp2
      go_ret2
      exact ⟨by rw [hrr.out]; rfl, hb1⟩
theorem ru11_impl (A : Option Addr) (n c : Nat) (ps : List Int) (s : ByteArray) (w : World) (h : Ints w A n ps) (hn : n ≤ 1048576) (hx : ∀ x ∈ ps, intGood x) (hs : s.size ≤ 1048576) :
    Calls Tryd.prog 6 #[.slice A n c, .string s] w fun e w' => e = .returned (.tuple #[.string (ruR ps s).1, .int .i64 (ruR ps s).2]) ∧ Below w.heap.size w w' := (ruW11 A n c ps s w h hn hs rfl).mono fun e w' hh => hh
theorem ru11_spec (A : Option Addr) (n c : Nat) (ps : List Int) (s : ByteArray) (w : World) (h : Ints w A n ps) (hn : n ≤ 1048576) (hx : ∀ x ∈ ps, intGood x) (hs : s.size ≤ 1048576) :
    Calls Tryd.prog 4 #[.slice A n c, .string s] w fun e w' => e = .returned (.tuple #[.string (ruR ps s).1, .int .i64 (ruR ps s).2]) ∧ Below w.heap.size w w' := ru11_specC A n c ps s w h hn hs
end Go.Proofs.YtcmmcgjpaabnoaaDoor
