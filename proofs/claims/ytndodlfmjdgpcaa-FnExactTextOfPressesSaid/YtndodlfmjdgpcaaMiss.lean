/- MissingLetters: the model's function and the program's. -/
import Derived.Test.YtndodlfmjdgpcaaLetWith
import Derived.Lib.IndexLaws
namespace Go.Proofs.Ytndodlfmjdgpcaa
open Go.RowKit Go.ChangeMaps Go.MapKept
set_option linter.unusedVariables false
set_option linter.unusedSimpArgs false

theorem has_byte (l : List UInt8) (c : UInt8) : decide (0 ≤ Lib.indexByte l c) = l.contains c := by
  have hge := Lib.indexByte_ge l c
  by_cases h : Lib.indexByte l c = -1
  · rw [h]
    have hn := Lib.indexByte_none h
    have : l.contains c = false := by
      rw [Bool.eq_false_iff]
      intro hc
      obtain ⟨k, hk⟩ := List.getElem?_of_mem (List.contains_iff_mem.1 hc)
      exact hn k hk
    rw [this]
    rfl
  · obtain ⟨o, ho⟩ : ∃ o : Nat, Lib.indexByte l c = o := ⟨(Lib.indexByte l c).toNat, by omega⟩
    have hs := (Lib.indexByte_some ho).1
    rw [ho, List.contains_iff_mem.2 (List.mem_of_getElem? hs)]
    exact decide_eq_true (by omega)
theorem ext_one {s : ByteArray} {k : Nat} (hk : k < s.size) : s.extract k (k + 1) = ⟨#[s[k]'hk]⟩ := by
  have h1 := chars_at hk
  have hk' : k < s.data.size := hk
  rw [chars, List.getElem?_map, Array.getElem?_toList, Array.getElem?_eq_getElem hk'] at h1
  simp only [Option.map_some, Option.some.injEq] at h1
  exact h1.symm
theorem list_at {s : ByteArray} {k : Nat} (hk : k < s.size) : s.data.toList[k]? = some (s[k]'hk) := by
  have hk' : k < s.data.size := hk
  rw [Array.getElem?_toList, Array.getElem?_eq_getElem hk']
  rfl
def missB (ks : List KeyD) (as_ : List AccentD) (l : List UInt8) (c : UInt8) : Bool := l.contains c && !canB ks as_ ⟨#[c]⟩
def missR (ks : List KeyD) (as_ : List AccentD) (s : ByteArray) : ByteArray × Int := if kbCode ks as_ s = 0 then (⟨(rng.filter (missB ks as_ s.data.toList)).toArray⟩, 0) else (ByteArray.empty, kbCode ks as_ s)
theorem miss_step {ks : List KeyD} {as_ : List AccentD} {l : List UInt8} {k : Nat} {c : UInt8} (h : l[k]? = some c) :
    (∀ x, missB ks as_ (l.take (k + 1)) x = if canB ks as_ ⟨#[c]⟩ = true then missB ks as_ (l.take k) x else (missB ks as_ (l.take k) x || x == c)) := by
  intro x
  obtain ⟨h1, rfl⟩ := List.getElem?_eq_some_iff.1 h
  unfold missB
  rw [List.take_succ_eq_append_getElem h1]
  have hc : (l.take k ++ [l[k]]).contains x = ((l.take k).contains x || x == l[k]) := by
    rw [Bool.eq_iff_iff, List.contains_iff_mem, List.mem_append, List.mem_singleton, Bool.or_eq_true, List.contains_iff_mem, beq_iff_eq]
  rw [hc]
  by_cases hx : x = l[k]
  · subst hx
    cases canB ks as_ ⟨#[l[k]]⟩ <;> simp
  · have : (x == l[k]) = false := beq_eq_false_iff_ne.2 hx
    rw [this, Bool.or_false, Bool.or_false, ite_self]
theorem miss_can {ks : List KeyD} {as_ : List AccentD} {l : List UInt8} {k : Nat} {c : UInt8} (h : l[k]? = some c) (hc : canB ks as_ ⟨#[c]⟩ = true) : rng.filter (missB ks as_ (l.take (k + 1))) = rng.filter (missB ks as_ (l.take k)) :=
  List.filter_congr fun x _ => by rw [miss_step h x, if_pos hc]
theorem miss_put {ks : List KeyD} {as_ : List AccentD} {l : List UInt8} {k : Nat} {c : UInt8} (h : l[k]? = some c) (hc : canB ks as_ ⟨#[c]⟩ = false) (hm : c ∈ rng) : rng.filter (missB ks as_ (l.take (k + 1))) = putL c (rng.filter (missB ks as_ (l.take k))) := by
  rw [rng_put hm]
  exact List.filter_congr fun x _ => by rw [miss_step h x, if_neg (by simp [hc])]

set_option maxRecDepth 100000 in
set_option maxHeartbeats 3200000 in
theorem miss_spec (A : Option Addr) (n c : Nat) (ks : List KeyD) (B : Option Addr) (m d : Nat) (as_ : List AccentD) (s : ByteArray) (w : World) (h : Keys w A n ks) (hn : n ≤ 1048576) (hgk : ∀ x ∈ ks, x.good) (hAs : Accents w B m as_) (hm : m ≤ 1048576) (hga : ∀ x ∈ as_, x.good) (hs : s.size ≤ 1048576) :
    Calls Try.prog 49 #[.slice A n n, .slice B m m, .string s] w fun e w' => e = .returned (.tuple #[.string (missR ks as_ s).1, .int .i64 (missR ks as_ s).2]) ∧ Below w.heap.size w w' := by
  have hcode := kb_code A n n ks B m m as_ s w h hn hgk hAs hm hga (Nat.le_refl _) hs
  by_cases h0 : kbCode ks as_ s = 0
  · have hs100 : s.size ≤ 100 := kbCode_size h0
    have hby := kbCode_bytes h0
    have hres : Hid (missR ks as_ s = (⟨(rng.filter (missB ks as_ s.data.toList)).toArray⟩, 0)) := Lib.hid (by rw [missR, if_pos h0])
    rw [h0] at hcode
    replace hcode := Lib.hid hcode
    have hin : ∀ k (hk : k < s.size), (s[k]'hk) ∈ rng := fun k hk => by
      have h1 : 33 ≤ (s[k]'hk).toNat ∧ (s[k]'hk).toNat ≤ 126 := by
        refine Classical.byContradiction fun hx => ?_
        rw [bytesIn_no hk hx] at hby
        cases hby
      exact rng_mem h1.1 h1.2
    replace hin := Lib.hid hin
    clear h0 hby
    go_enter Try.func49, Try.ntmps49
    go_wp2_with fail
    refine hcode.out.mono ?_
    rintro e w1 ⟨rfl, hb1⟩
    have hK := h.below hb1
    have hA1 := hAs.below hb1
    go_wp2
    go_loopw [9, 10] (fun v i wr => ∃ k : Nat, k ≤ s.size ∧ i = .int .i64 k ∧ v = .string ⟨(rng.filter (missB ks as_ (s.data.toList.take k))).toArray⟩ ∧ Below w1.heap.size w1 wr) (fun _ i _ => s.size - (intOf i).toNat)
    case atStart => exact ⟨0, by omega, rfl, by rw [show rng.filter (missB ks as_ (s.data.toList.take 0)) = [] from List.filter_eq_nil_iff.2 (fun a _ => by simp [missB])], Below.refl _ _⟩
    case round =>
      obtain ⟨k, hk, rfl, rfl, hbo⟩ := hrel
      by_cases hlt : k < s.size
      · have hk0 : (0 : Int) ≤ (k : Int) := Int.natCast_nonneg _
        have hk1 : (k : Int) < (s.size : Int) := by omega
        have hsl := fun W => run_slice_string (P := Try.prog) W 9 s .i64 .i64 (k : Int) ((k : Int) + 1) Try.underlying9 (by omega) (by omega) (by omega)
        rw [show (k : Int).toNat = k from rfl, show ((k : Int) + 1).toNat = k + 1 from rfl] at hsl
        rw [ext_one hlt] at hsl
        have hmem := hin.out k hlt
        have hat := list_at hlt
        generalize s[k]'hlt = z at *
        have hps := Lib.hid (presses_spec A B n n m m ks as_ ⟨#[z]⟩ wr (hK.below hbo) (hA1.below hbo) hn hm (by show 1 ≤ 1048576; omega))
        cases hcan : canB ks as_ ⟨#[z]⟩ with
        | true =>
          have hnx := Lib.hid (miss_can hat hcan)
          go_wp2_with fail
          refine hps.out.mono ?_
          rintro e w2 ⟨A', n', c', rfl, hO, hb2⟩
          have hn0 : 0 < n' := by
            rw [canB, Bool.not_eq_true'] at hcan
            rw [← hO.1]
            exact List.length_pos_iff.2 (fun e => by rw [e] at hcan; cases hcan)
          have hg0 : ((n' : Int) == 0) = false := beq_eq_false_iff_ne.2 (by omega)
          clear hcan hO
          go_wp2
          go_roundw
          case rel => exact ⟨k + 1, by omega, by go_num, by rw [hnx.out], hbo.step hb2⟩
          case measure => simp [intOf]; omega
        | false =>
          have hnx := Lib.hid (miss_put hat hcan hmem)
          have hpt := fun W => put_spec ⟨(rng.filter (missB ks as_ (s.data.toList.take k))).toArray⟩ z W (by
            show (List.toArray _).size ≤ 1048576
            have := rng_filter_length (missB ks as_ (s.data.toList.take k))
            rw [List.size_toArray]
            omega)
          simp only [List.toList_toArray] at hpt
          rw [← hnx.out] at hpt
          replace hpt := Lib.hid hpt
          go_wp2_with fail
          refine hps.out.mono ?_
          rintro e w2 ⟨A', n', c', rfl, hO, hb2⟩
          have hn0 : n' = 0 := by
            rw [canB, Bool.not_eq_false'] at hcan
            rw [← hO.1, List.isEmpty_iff.1 hcan]
            rfl
          subst hn0
          clear hcan hO hat
          go_wp2_with fail
          refine (hpt.out _).mono ?_
          rintro e w3 ⟨rfl, hb3⟩
          go_wp2
          go_roundw
          case rel => exact ⟨k + 1, by omega, by go_num, rfl, (hbo.step hb2).step hb3⟩
          case measure => simp [intOf]; omega
      · obtain rfl : k = s.size := by omega
        have hT : s.data.toList.take s.size = s.data.toList := List.take_of_length_le (by rw [Array.length_toList]; exact Nat.le_refl _)
        have hr : Hid (missR ks as_ s = (⟨(rng.filter (missB ks as_ (s.data.toList.take s.size))).toArray⟩, 0)) := Lib.hid (by rw [hres.out, hT])
        go_wp2
        rw [hr.out]
        go_ret2
        exact ⟨rfl, hb1.trans (hbo.mono hb1.size)⟩
  · have hres : Hid (missR ks as_ s = (ByteArray.empty, kbCode ks as_ s)) := Lib.hid (by rw [missR, if_neg h0])
    have hne : (kbCode ks as_ s == 0) = false := beq_eq_false_iff_ne.2 h0
    rw [hres.out]
    replace hcode := Lib.hid hcode
    clear h0
    go_enter Try.func49, Try.ntmps49
    go_wp2_with fail
    refine hcode.out.mono ?_
    rintro e w1 ⟨rfl, hb1⟩
    go_wp2
    go_ret2
    exact ⟨rfl, hb1⟩

set_option maxRecDepth 100000 in
set_option maxHeartbeats 1600000 in
theorem clo_miss (ks : List KeyD) (as_ : List AccentD) (s : ByteArray) (r1 r2 r3 P Q : Nat) (c : UInt8) (w : World) (h : KbIs w r1 r2 r3 ks as_) (hv : validKb ks as_ = true)
    (cs : w.cell? ⟨P, 0, none⟩ = some (.string s)) (c0 : w.cell? ⟨Q, 0, none⟩ = some (.map (some r1))) (c1 : w.cell? ⟨Q, 1, none⟩ = some (.map (some r2))) (c2 : w.cell? ⟨Q, 2, none⟩ = some (.map (some r3))) :
    Calls Try.prog 95 #[.string ⟨#[c]⟩, .pointer (some ⟨P, 0, none⟩), .pointer (some ⟨Q, 0, none⟩)] w fun e w' => e = .returned (.bool (missB ks as_ s.data.toList c)) ∧ Below w.heap.size w w' := by
  have hcon := Try.strings_Contains_one s c w
  rw [has_byte] at hcon
  have hcan := can_impl r1 r2 r3 ks as_ ⟨#[c]⟩ w h hv (by show 1 ≤ 1048576; omega)
  unfold missB
  replace hcan := Lib.hid hcan
  clear hv
  cases hk : s.data.toList.contains c with
  | true =>
    rw [hk] at hcon
    replace hcon := Lib.hid hcon
    clear hk
    go_enter Try.func95, Try.ntmps95
    go_wp2_with fail
    refine hcon.out.mono ?_
    rintro e w' ⟨rfl, rfl⟩
    go_wp2_with fail
    refine hcan.out.mono ?_
    rintro e w1 ⟨rfl, hb1⟩
    go_wp2
    go_ret
    exact ⟨by simp, hb1⟩
  | false =>
    rw [hk] at hcon
    replace hcon := Lib.hid hcon
    clear hk
    go_enter Try.func95, Try.ntmps95
    go_wp2_with fail
    refine hcon.out.mono ?_
    rintro e w' ⟨rfl, rfl⟩
    go_wp2
    go_ret
    exact ⟨by simp, Below.refl _ _⟩

set_option maxRecDepth 100000 in
set_option maxHeartbeats 3200000 in
theorem miss_impl (A : Option Addr) (n c : Nat) (ks : List KeyD) (B : Option Addr) (m d : Nat) (as_ : List AccentD) (s : ByteArray) (w : World) (h : Keys w A n ks) (hn : n ≤ 1048576) (hgk : ∀ x ∈ ks, x.good) (hAs : Accents w B m as_) (hm : m ≤ 1048576) (hga : ∀ x ∈ as_, x.good) (hs : s.size ≤ 1048576) :
    Calls Try.prog 50 #[.slice A n n, .slice B m m, .string s] w fun e w' => e = .returned (.tuple #[.string (missR ks as_ s).1, .int .i64 (missR ks as_ s).2]) ∧ Below w.heap.size w w' := by
  have hE := below_a1 w (.cells #[.string s] 9)
  have hmf : ∀ (fn : Fn) (first cap : Array Value) (w : World), (Instr.makeFunc fn first cap).run Try.prog w = .ok (.func fn first cap) w := fun _ _ _ _ => rfl
  cases hv : validKb ks as_ with
  | false =>
    have hres : Hid (missR ks as_ s = (ByteArray.empty, 1)) := Lib.hid (by
      have hk : kbCode ks as_ s = 1 := by unfold kbCode; rw [if_neg (by simp [hv])]
      rw [missR, hk]
      rfl)
    have hkb := Lib.hid (kb_no A B n n m m ks as_ _ (h.below hE) (hAs.below hE) hn hm hgk hga hv)
    rw [hres.out]
    clear hv
    go_enter Try.func50, Try.ntmps50
    go_wp2_with fail
    refine hkb.out.mono ?_
    rintro e w1 ⟨x1, x2, x3, rfl, hb1⟩
    have hbb := hE.step hb1
    go_wp2
    go_ret2
    exact ⟨rfl, hbb.step (below_a1 _ _)⟩
  | true =>
    have hkb := Lib.hid (kb_yes A B n n m m ks as_ _ (h.below hE) (hAs.below hE) hn hm hgk hga hv)
    have htx := fun W => text_impl s _ rfl W hs
    cases ht : textOk s with
    | false =>
      have hres : Hid (missR ks as_ s = (ByteArray.empty, 2)) := Lib.hid (by
        have hk : kbCode ks as_ s = 2 := by unfold kbCode; rw [if_pos hv, if_neg (by simp [ht])]
        rw [missR, hk]
        rfl)
      rw [ht] at htx
      replace htx := Lib.hid htx
      rw [hres.out]
      clear hv ht
      go_enter Try.func50, Try.ntmps50
      go_wp2_with fail
      refine hkb.out.mono ?_
      rintro e w1 ⟨r1, r2, r3, rfl, hb1, _⟩
      have cs : (w1.alloc (.cells #[.map (some r1), .map (some r2), .map (some r3)] 99)).cell? ⟨w.heap.size, 0, none⟩ = some (.string s) := cell_on (cell_step (cell_new rfl rfl) hb1) _
      have hbb := hE.step hb1
      go_wp2_with fail
      refine (htx.out _).mono ?_
      rintro e w' ⟨rfl, rfl⟩
      go_wp2
      go_ret2
      exact ⟨rfl, hbb.step (below_a1 _ _)⟩
    | true =>
      have hk0 : kbCode ks as_ s = 0 := by unfold kbCode; rw [if_pos hv, if_pos ht]
      have hres : Hid (missR ks as_ s = (⟨(rng.filter (missB ks as_ s.data.toList)).toArray⟩, 0)) := Lib.hid (by rw [missR, if_pos hk0])
      rw [ht] at htx
      replace htx := Lib.hid htx
      rw [hres.out]
      clear ht hk0
      replace hv := Lib.hid hv
      go_enter Try.func50, Try.ntmps50
      go_wp2_with fail
      refine hkb.out.mono ?_
      rintro e w1 ⟨r1, r2, r3, rfl, hb1, hkis⟩
      have cs0 : (w1.alloc (.cells #[.map (some r1), .map (some r2), .map (some r3)] 99)).cell? ⟨w.heap.size, 0, none⟩ = some (.string s) := cell_on (cell_step (cell_new rfl rfl) hb1) _
      go_wp2_with fail
      obtain ⟨wb, hwb⟩ : ∃ W, w1.alloc (.cells #[.map (some r1), .map (some r2), .map (some r3)] 99) = W := ⟨_, rfl⟩
      have hbb : Below w.heap.size w wb := hwb ▸ (hE.step hb1).step (below_a1 _ _)
      have hkb1 : KbIs wb r1 r2 r3 ks as_ := hwb ▸ hkis.below (below_a1 _ _)
      have cs : wb.cell? ⟨w.heap.size, 0, none⟩ = some (.string s) := hwb ▸ cs0
      have c0 : wb.cell? ⟨w1.heap.size, 0, none⟩ = some (.map (some r1)) := hwb ▸ cell_new rfl rfl
      have c1 : wb.cell? ⟨w1.heap.size, 1, none⟩ = some (.map (some r2)) := hwb ▸ cell_new rfl rfl
      have c2 : wb.cell? ⟨w1.heap.size, 2, none⟩ = some (.map (some r3)) := hwb ▸ cell_new rfl rfl
      have hw := Lib.hid (with_miss (missB ks as_ s.data.toList) (.pointer (some ⟨w.heap.size, 0, none⟩)) (.pointer (some ⟨w1.heap.size, 0, none⟩)) wb (fun c _ W hW => clo_miss ks as_ s r1 r2 r3 _ _ c W (hkb1.below hW) hv.out (cell_step cs hW) (cell_step c0 hW) (cell_step c1 hW) (cell_step c2 hW)))
      rw [hwb]
      clear hwb cs0
      refine (htx.out _).mono ?_
      rintro e w' ⟨rfl, rfl⟩
      generalize w1.heap.size = M at *
      go_wp2_with fail
      refine hw.out.mono ?_
      rintro e w2 ⟨rfl, hb2⟩
      go_wp2
      go_ret2
      exact ⟨rfl, hbb.step2 hb2 hbb.size⟩
end Go.Proofs.Ytndodlfmjdgpcaa
