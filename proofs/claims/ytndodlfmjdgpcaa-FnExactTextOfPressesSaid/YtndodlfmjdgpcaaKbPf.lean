/- PressesFor: the model's function and the program's. -/
import Derived.Test.YtndodlfmjdgpcaaKbPo
import Derived.Laws.OwnMore
import Derived.Lib.OthersKept
namespace Go.Proofs.Ytndodlfmjdgpcaa
open Go.RowKit Go.ChangeMaps Go.MapKept
set_option linter.unusedVariables false
set_option linter.unusedSimpArgs false

theorem owns_keep {w w' : World} {base : Nat} {e : TypeId} {size n : Nat} {v : Value} {xs : List Value} (h : w.ownsRow base e size v n xs) (hb : Below w.heap.size w w') : w'.ownsRow base e size v n xs :=
  h.kept (grown_below hb none) (by cases v.ownBlock <;> simp)
theorem owns_iter {w w' : World} {base k : Nat} {e : TypeId} {size n : Nat} {v : Value} {xs : List Value} (h : w.ownsRow base e size v n xs) (hg : w.grownBy w' (some k)) (hk : k < base) : w'.ownsRow base e size v n xs :=
  h.kept hg (by
    cases hob : v.ownBlock with
    | none => exact .inl rfl
    | some b => exact .inr (fun e => by cases e; have := (h.lt _ hob).1; omega))
/-- The letters of a text. -/
def chars (s : ByteArray) : List ByteArray := s.data.toList.map fun c => ⟨#[c]⟩
theorem chars_length (s : ByteArray) : (chars s).length = s.size := by
  rw [chars, List.length_map, Array.length_toList]
  rfl
theorem chars_at {s : ByteArray} {k : Nat} (hk : k < s.size) : (chars s)[k]? = some (s.extract k (k + 1)) := by
  have hk' : k < s.data.size := hk
  rw [chars, List.getElem?_map, Array.getElem?_toList, Array.getElem?_eq_getElem hk']
  simp only [Option.map_some, Option.some.injEq]
  apply ByteArray.ext
  rw [ByteArray.data_extract]
  apply Array.ext
  · simp; omega
  · intro i h1 h2
    simp at h1
    subst h1
    simp
theorem kbCode_size {ks : List KeyD} {as_ : List AccentD} {s : ByteArray} (h : kbCode ks as_ s = 0) : s.size ≤ 100 := by
  unfold kbCode at h
  split at h
  · split at h
    · rename_i _ ht
      rw [textOk, Bool.and_eq_true, decide_eq_true_eq] at ht
      omega
    · cases h
  · cases h
theorem kbCode_valid {ks : List KeyD} {as_ : List AccentD} {s : ByteArray} (h : kbCode ks as_ s = 0) : validKb ks as_ = true := by
  unfold kbCode at h
  split at h
  · assumption
  · cases h
theorem kbCode_bytes {ks : List KeyD} {as_ : List AccentD} {s : ByteArray} (h : kbCode ks as_ s = 0) : bytesIn 33 126 s = true := by
  unfold kbCode at h
  split at h
  · split at h
    · rename_i _ ht
      rw [textOk, Bool.and_eq_true] at ht
      exact ht.2
    · cases h
  · cases h
def pressAll (ks : List KeyD) (as_ : List AccentD) (l : List ByteArray) : List PressD := l.flatMap (pressesL ks as_)
def pressesForR (ks : List KeyD) (as_ : List AccentD) (s : ByteArray) : List PressD × Int := if kbCode ks as_ s = 0 then (if (chars s).all (canB ks as_) = true then (pressAll ks as_ (chars s), 0) else ([], 3)) else ([], kbCode ks as_ s)
theorem pressesL_len (ks : List KeyD) (as_ : List AccentD) (s : ByteArray) : (pressesL ks as_ s).length ≤ 2 := by
  have h : (accPs ks as_ s).length ≤ 2 := by unfold accPs; split <;> simp
  unfold pressesL
  split
  · split
    · exact h
    · simp
  · exact h
theorem pressAll_len (ks : List KeyD) (as_ : List AccentD) : ∀ l : List ByteArray, (pressAll ks as_ l).length ≤ 2 * l.length
  | [] => by simp [pressAll]
  | a :: l => by
    have h1 := pressAll_len ks as_ l
    have h2 := pressesL_len ks as_ a
    unfold pressAll at h1 ⊢
    simp only [List.flatMap_cons, List.length_append, List.length_cons]
    omega
theorem pressAll_snoc {ks : List KeyD} {as_ : List AccentD} {l : List ByteArray} {k : Nat} {a : ByteArray} (h : l[k]? = some a) : pressAll ks as_ (l.take (k + 1)) = pressAll ks as_ (l.take k) ++ pressesL ks as_ a := by
  obtain ⟨h1, rfl⟩ := List.getElem?_eq_some_iff.1 h
  rw [List.take_succ_eq_append_getElem h1, pressAll, List.flatMap_append]
  simp [pressAll]
theorem all_snoc {l : List ByteArray} {k : Nat} {a : ByteArray} {f : ByteArray → Bool} (h : l[k]? = some a) (ha : f a = true) (ht : (l.take k).all f = true) : (l.take (k + 1)).all f = true := by
  obtain ⟨h1, rfl⟩ := List.getElem?_eq_some_iff.1 h
  rw [List.take_succ_eq_append_getElem h1, List.all_append, ht]
  simp [ha]
theorem all_not {l : List ByteArray} {k : Nat} {a : ByteArray} {f : ByteArray → Bool} (h : l[k]? = some a) (ha : f a = false) : l.all f = false := by
  rw [List.all_eq_false]
  exact ⟨a, List.mem_of_getElem? h, by simp [ha]⟩
theorem SRow.flat {α : Type} {size : Nat} {cells : α → List Value} {w : World} {b off n : Nat} {xs : List α} (hs : 0 < size) (hlen : ∀ y, (cells y).length = size) (h : SRow size cells w (some ⟨b, off, none⟩) n xs) :
    ∀ j u, (xs.flatMap cells)[j]? = some u → w.cell? ⟨b, off + j, none⟩ = some u := by
  intro j u hj
  have hl : j < xs.length * size := by
    rw [← flat_length hlen]
    exact (List.getElem?_eq_some_iff.1 hj).1
  have hi : j / size < xs.length := by rw [Nat.div_lt_iff_lt_mul hs]; exact hl
  have hx0 : 0 < xs.length := Nat.lt_of_le_of_lt (Nat.zero_le _) hi
  have hr : j % size < size := Nat.mod_lt _ hs
  obtain ⟨x, hx⟩ : ∃ x, xs[j / size]? = some x := ⟨_, List.getElem?_eq_getElem hi⟩
  obtain ⟨v, hv⟩ : ∃ v, (cells x)[j % size]? = some v := ⟨_, List.getElem?_eq_getElem (by rw [hlen]; exact hr)⟩
  have hf := flat_at hlen xs _ x _ v hx hv
  have hjj : j / size * size + j % size = j := by rw [Nat.mul_comm]; exact Nat.div_add_mod j size
  rw [hjj, hj] at hf
  cases hf
  have hn : 0 < n := by rw [← h.1]; exact hx0
  obtain ⟨b', off', e, _, hc⟩ := h.2 hn
  cases e
  have := hc _ x hx _ u hv
  rwa [Nat.add_assoc, hjj] at this
theorem add_addr (g off j : Nat) : (⟨g, off, none⟩ : Addr).add j = ⟨g, off + j, none⟩ := by
  unfold Addr.add
  split
  · rename_i h
    simp_all
  · rfl
theorem PressD_len : ∀ y, (PressD.cells y).length = 2 := fun _ => rfl
theorem press_one : ∀ (l : List PressD), ∀ u ∈ l.flatMap PressD.cells, u.oneCell' = true := by
  intro l u hu
  obtain ⟨x, _, hx⟩ := List.mem_flatMap.1 hu
  simp only [PressD.cells, List.mem_cons, List.not_mem_nil, or_false] at hx
  rcases hx with rfl | rfl <;> rfl
theorem owns_presses {w : World} {base n : Nat} {v : Value} {l : List PressD} (hn : l.length = n) (h : w.ownsRow base 53 2 v n (l.flatMap PressD.cells)) : ∃ A c, v = .slice A n c ∧ OPresses w base A n l := by
  subst hn
  exact ORow.of_owns PressD_len h

set_option maxRecDepth 100000 in
set_option maxHeartbeats 3200000 in
theorem pf_spec (A : Option Addr) (n c : Nat) (ks : List KeyD) (B : Option Addr) (m d : Nat) (as_ : List AccentD) (s : ByteArray) (w : World) (h : Keys w A n ks) (hn : n ≤ 1048576) (hgk : ∀ x ∈ ks, x.good) (hAs : Accents w B m as_) (hm : m ≤ 1048576) (hga : ∀ x ∈ as_, x.good) (hs : s.size ≤ 1048576) :
    Calls Try.prog 37 #[.slice A n n, .slice B m m, .string s] w fun e w' => ∃ A' n' c', e = .returned (.tuple #[.slice A' n' c', .int .i64 (pressesForR ks as_ s).2]) ∧ n' ≤ 1048576 ∧ OPresses w' w.heap.size A' n' (pressesForR ks as_ s).1 ∧ Below w.heap.size w w' := by
  have hcode := kb_code A n n ks B m m as_ s w h hn hgk hAs hm hga (Nat.le_refl _) hs
  by_cases h0 : kbCode ks as_ s = 0
  · have hs100 : s.size ≤ 100 := kbCode_size h0
    have hres : Hid (pressesForR ks as_ s = if (chars s).all (canB ks as_) = true then (pressAll ks as_ (chars s), 0) else ([], 3)) := Lib.hid (by rw [pressesForR, if_pos h0])
    rw [h0] at hcode
    replace hcode := Lib.hid hcode
    have hch := fun k (hk : k < s.size) => chars_at hk
    replace hch := Lib.hid hch
    clear h0
    obtain ⟨i0, hi, hz0, hz1, hz2⟩ := info_parts Try.infoPress
    go_enter Try.func37, Try.ntmps37
    go_wp2_with fail
    refine hcode.out.mono ?_
    rintro e w1 ⟨rfl, hb1⟩
    have hK := h.below hb1
    have hA1 := hAs.below hb1
    go_wp2
    have hown : (w1.alloc (.cells #[] 53)).ownsRow w1.heap.size 53 2 (.slice (some ⟨w1.heap.size, 0, none⟩) 0 0) 0 [] := by
      have := World.ownsRow_lit (w := w1) (e := 53) (base := w1.heap.size) (size := 2) #[] 0 (Nat.le_refl _) (by simp [maxLen]) (by simp)
      simpa using this
    have hbs := below_a1 w1 (.cells #[] 53)
    generalize hws : w1.alloc (.cells #[] 53) = ws at *
    replace hown := Lib.hid hown
    clear hws
    go_loopw [9, 10, 11] (fun v i _ wr => ∃ k : Nat, k ≤ s.size ∧ i = .int .i64 k ∧ wr.ownsRow w1.heap.size 53 2 v (pressAll ks as_ ((chars s).take k)).length ((pressAll ks as_ ((chars s).take k)).flatMap PressD.cells) ∧ Below w1.heap.size w1 wr ∧ ((chars s).take k).all (canB ks as_) = true) (fun _ i _ _ => s.size - (intOf i).toNat)
    case atStart => exact ⟨0, by omega, rfl, hown.out, hbs, rfl⟩
    case round =>
      obtain ⟨k, hk, rfl, hrow, hbo, hall⟩ := hrel
      replace hall := Lib.hid hall
      by_cases hlt : k < s.size
      · have hk0 : (0 : Int) ≤ (k : Int) := Int.natCast_nonneg _
        have hk1 : (k : Int) < (s.size : Int) := by omega
        have hsl := run_slice_string (P := Try.prog) wr 9 s .i64 .i64 (k : Int) ((k : Int) + 1) Try.underlying9 (by omega) (by omega) (by omega)
        have hps := Lib.hid (presses_spec A B n n m m ks as_ (s.extract k (k + 1)) wr (hK.below hbo) (hA1.below hbo) hn hm (by rw [ByteArray.size_extract]; omega))
        go_wp2_with fail
        refine hps.out.mono ?_
        rintro e w2 ⟨A', n', c', rfl, hO, hb2⟩
        obtain ⟨V, cV, rfl, hOo⟩ := owns_presses rfl hrow
        have hrow2 := owns_keep hrow hb2
        have hn2 : n' ≤ 2 := hO.1 ▸ pressesL_len _ _ _
        have hlen := pressAll_len ks as_ ((chars s).take k)
        have htk : ((chars s).take k).length ≤ k := by rw [List.length_take]; omega
        cases hcan : canB ks as_ (s.extract k (k + 1)) with
        | false =>
          have hn0 : n' = 0 := by
            rw [canB, Bool.not_eq_false'] at hcan
            rw [← hO.1, List.isEmpty_iff.1 hcan]
            rfl
          subst hn0
          have hr : Hid (pressesForR ks as_ s = ([], 3)) := Lib.hid (by
            rw [hres.out, all_not (hch.out k hlt) hcan]
            rfl)
          clear hcan
          go_wp2
          rw [hr.out]
          go_ret2
          exact ⟨none, 0, 0, rfl, by omega, ORow.nil_, (hb1.trans (hbo.mono hb1.size)).step hb2⟩
        | true =>
          have hn0 : 0 < n' := by
            rw [canB, Bool.not_eq_true'] at hcan
            rw [← hO.1]
            exact List.length_pos_iff.2 (fun e => by rw [e] at hcan; cases hcan)
          have hg0 : ((n' : Int) == 0) = false := beq_eq_false_iff_ne.2 (by omega)
          have hallN := Lib.hid (all_snoc (hch.out k hlt) hcan hall.out)
          have hsn := Lib.hid (pressAll_snoc (ks := ks) (as_ := as_) (hch.out k hlt))
          obtain ⟨g, off, _, rfl, _, _, _⟩ := hO.srow.at_ hn0
          have hflat := SRow.flat (by omega) PressD_len hO.srow
          have hone := press_one (pressesL ks as_ (s.extract k (k + 1)))
          have hnl : ((pressesL ks as_ (s.extract k (k + 1))).flatMap PressD.cells).length = n' * 2 := by rw [flat_length PressD_len, hO.1]
          have hb2sz := hb2.size
          have hbosz := hbo.size
          have hroq := Lib.hid (hrow2.lt)
          generalize hpn : (pressAll ks as_ ((chars s).take k)).length = pn at *
          have h63 : pn + n' ≤ maxLen := by unfold maxLen; omega
          have hby : (pn + n') * 16 ≤ 140737488355328 := by omega
          clear hcan
          replace hone := Lib.hid hone
          replace hflat := Lib.hid hflat
          replace hnl := Lib.hid hnl
          go_wp2_with (at_builtin; refine wpList_append_own _ rfl _ _ 43 rfl w1.heap.size 53 i0 _ 2 16 Try.underlying43 hi hz0 hz1 hz2 rfl (by decide) _ _ _ rfl hrow2 ⟨g, off, none⟩ n' c' _ rfl hnl.out ?c1 hone.out h63 hby ?c5 ?_)
          case c1 => exact fun j u hj => by rw [add_addr]; exact hflat.out j u hj
          case c5 => omega
          intro v' w3 hown3 hgr3 hnil
          have hrel3 : Hid (w3.ownsRow w1.heap.size 53 2 v' (pressAll ks as_ ((chars s).take (k + 1))).length ((pressAll ks as_ ((chars s).take (k + 1))).flatMap PressD.cells) ∧ Below w1.heap.size w1 w3) := Lib.hid (by
            refine ⟨?_, ?_⟩
            · rw [hsn.out, List.length_append, List.flatMap_append, hpn, hO.1]
              exact hown3
            · exact Below.grown (hbo.step hb2) hgr3 (by omega) (fun j hj => (hroq.out j hj).1))
          clear hown3 hgr3 hnil
          go_wp2
          go_roundw
          case rel => exact ⟨k + 1, by omega, by go_num, hrel3.out.1, hrel3.out.2, hallN.out⟩
          case measure => simp [intOf]; omega
      · obtain rfl : k = s.size := by omega
        obtain ⟨V, cV, rfl, hOo⟩ := owns_presses rfl hrow
        have hT : (chars s).take s.size = chars s := List.take_of_length_le (by rw [chars_length]; exact Nat.le_refl _)
        rw [hT] at hall
        have hO2 : OPresses wr w.heap.size V (pressAll ks as_ ((chars s).take s.size)).length (pressAll ks as_ (chars s)) := by
          have := hOo.mono hb1.size
          rwa [hT] at this ⊢
        have hr : Hid (pressesForR ks as_ s = (pressAll ks as_ (chars s), 0)) := Lib.hid (by rw [hres.out, if_pos hall.out])
        have hle := pressAll_len ks as_ (chars s)
        rw [chars_length] at hle
        go_wp2
        rw [hr.out]
        go_ret2
        exact ⟨V, _, cV, rfl, by rw [hT]; omega, hO2, hb1.trans (hbo.mono hb1.size)⟩
  · have hres : Hid (pressesForR ks as_ s = ([], kbCode ks as_ s)) := Lib.hid (by rw [pressesForR, if_neg h0])
    have hne : (kbCode ks as_ s == 0) = false := beq_eq_false_iff_ne.2 h0
    rw [hres.out]
    replace hcode := Lib.hid hcode
    clear h0
    go_enter Try.func37, Try.ntmps37
    go_wp2_with fail
    refine hcode.out.mono ?_
    rintro e w1 ⟨rfl, hb1⟩
    go_wp2
    go_ret2
    exact ⟨none, 0, 0, rfl, by omega, ORow.nil_, hb1⟩

theorem encode_one {s : ByteArray} {k : Nat} (hk : k < s.size) (h : (s[k]'hk).toNat < 128) : Utf8.encode ((s[k]'hk).toNat : Int) = s.extract k (k + 1) := by
  have h1 := chars_at hk
  have hk' : k < s.data.size := hk
  rw [chars, List.getElem?_map, Array.getElem?_toList, Array.getElem?_eq_getElem hk'] at h1
  simp only [Option.map_some, Option.some.injEq] at h1
  rw [← h1]
  have hv : Utf8.valid ((s[k]'hk).toNat : Int) = true := by
    unfold Utf8.valid
    simp
    omega
  unfold Utf8.encode
  simp only [hv, if_true, Int.toNat_natCast, h]
  apply ByteArray.ext
  simp [ByteArray.push]
  rfl

set_option maxRecDepth 100000 in
set_option maxHeartbeats 3200000 in
theorem pf_impl (A : Option Addr) (n c : Nat) (ks : List KeyD) (B : Option Addr) (m d : Nat) (as_ : List AccentD) (s : ByteArray) (w : World) (h : Keys w A n ks) (hn : n ≤ 1048576) (hgk : ∀ x ∈ ks, x.good) (hAs : Accents w B m as_) (hm : m ≤ 1048576) (hga : ∀ x ∈ as_, x.good) (hs : s.size ≤ 1048576) :
    Calls Try.prog 29 #[.slice A n n, .slice B m m, .string s] w fun e w' => ∃ A' n' c', e = .returned (.tuple #[.slice A' n' c', .int .i64 (pressesForR ks as_ s).2]) ∧ n' ≤ 1048576 ∧ OPresses w' w.heap.size A' n' (pressesForR ks as_ s).1 ∧ Below w.heap.size w w' := by
  cases hv : validKb ks as_ with
  | false =>
    have hres : Hid (pressesForR ks as_ s = ([], 1)) := Lib.hid (by
      have hk : kbCode ks as_ s = 1 := by unfold kbCode; rw [if_neg (by simp [hv])]
      rw [pressesForR, hk]
      rfl)
    have hkb := Lib.hid (kb_no A B n n m m ks as_ w h hAs hn hm hgk hga hv)
    rw [hres.out]
    clear hv
    go_enter Try.func29, Try.ntmps29
    go_wp2_with fail
    refine hkb.out.mono ?_
    rintro e w1 ⟨x1, x2, x3, rfl, hb1⟩
    go_wp2
    go_ret2
    exact ⟨none, 0, 0, rfl, by omega, ORow.nil_, hb1.step (below_a1 _ _)⟩
  | true =>
    have hkb := Lib.hid (kb_yes A B n n m m ks as_ w h hAs hn hm hgk hga hv)
    have htx := fun W => text_impl s _ rfl W hs
    cases ht : textOk s with
    | false =>
      have hres : Hid (pressesForR ks as_ s = ([], 2)) := Lib.hid (by
        have hk : kbCode ks as_ s = 2 := by unfold kbCode; rw [if_pos hv, if_neg (by simp [ht])]
        rw [pressesForR, hk]
        rfl)
      rw [ht] at htx
      replace htx := Lib.hid htx
      rw [hres.out]
      clear hv ht
      go_enter Try.func29, Try.ntmps29
      go_wp2_with fail
      refine hkb.out.mono ?_
      rintro e w1 ⟨r1, r2, r3, rfl, hb1, _⟩
      go_wp2_with fail
      refine (htx.out _).mono ?_
      rintro e w' ⟨rfl, rfl⟩
      go_wp2
      go_ret2
      exact ⟨none, 0, 0, rfl, by omega, ORow.nil_, hb1.step (below_a1 _ _)⟩
    | true =>
      have hk0 : kbCode ks as_ s = 0 := by unfold kbCode; rw [if_pos hv, if_pos ht]
      have hres : Hid (pressesForR ks as_ s = if (chars s).all (canB ks as_) = true then (pressAll ks as_ (chars s), 0) else ([], 3)) := Lib.hid (by rw [pressesForR, if_pos hk0])
      have hs100 : s.size ≤ 100 := kbCode_size hk0
      have hby := kbCode_bytes hk0
      have hasc : ∀ k (hk : k < s.size), (s[k]'hk).toNat < 128 := fun k hk => by
        rcases Nat.lt_or_ge (s[k]'hk).toNat 128 with h' | h'
        · exact h'
        · rw [bytesIn_no hk (fun h => by omega)] at hby
          cases hby
      replace hasc := Lib.hid hasc
      rw [ht] at htx
      replace htx := Lib.hid htx
      have hch := fun k (hk : k < s.size) => chars_at hk
      replace hch := Lib.hid hch
      clear ht hk0 hby
      replace hv := Lib.hid hv
      obtain ⟨i0, hi, hz0, hz1, hz2⟩ := info_parts Try.infoPress
      have hcv := fun (W : World) (z : Int) => run_convert_int_string (P := Try.prog) W 21 9 .i32 z (by kernel_rfl) Try.underlying9
      replace hcv := Lib.hid hcv
      go_enter Try.func29, Try.ntmps29
      go_wp2_with fail
      refine hkb.out.mono ?_
      rintro e w1 ⟨r1, r2, r3, rfl, hb1, hkis⟩
      obtain ⟨wb, hwb⟩ : ∃ W, w1.alloc (.cells #[.map (some r1), .map (some r2), .map (some r3)] 99) = W := ⟨_, rfl⟩
      have hbb : Below w.heap.size w wb := hwb ▸ hb1.step (below_a1 _ _)
      have hkb1 : KbIs wb r1 r2 r3 ks as_ := hwb ▸ hkis.below (below_a1 _ _)
      have c0 : wb.cell? ⟨w1.heap.size, 0, none⟩ = some (.map (some r1)) := hwb ▸ cell_new rfl rfl
      have c1 : wb.cell? ⟨w1.heap.size, 1, none⟩ = some (.map (some r2)) := hwb ▸ cell_new rfl rfl
      have c2 : wb.cell? ⟨w1.heap.size, 2, none⟩ = some (.map (some r3)) := hwb ▸ cell_new rfl rfl
      have hNs : w1.heap.size + 1 = wb.heap.size := hwb ▸ (by simp)
      go_wp2_with fail
      clear hwb
      refine (htx.out _).mono ?_
      rintro e w' ⟨rfl, rfl⟩
      generalize hM : w1.heap.size = M at *
      replace hM := Lib.hid hM
      go_wp2
      go_loopw [10] (fun v wr => ∃ pos : Nat, wr.heap[wb.heap.size]? = some (.stringIter s pos) ∧ Below wb.heap.size wb wr ∧ pos ≤ s.size ∧ wr.ownsRow (wb.heap.size + 1) 53 2 v (pressAll ks as_ ((chars s).take pos)).length ((pressAll ks as_ ((chars s).take pos)).flatMap PressD.cells) ∧ ((chars s).take pos).all (canB ks as_) = true) (fun _ wr => s.size - wr.iterPos wb.heap.size)
      case atStart => exact ⟨0, World.iter_heap wb s 0, below_a1 _ _, by omega, World.ownsRow_nil _ _ _ _, rfl⟩
      case round =>
        obtain ⟨pos, hit, hbo, hps, hrow, hall⟩ := hrel
        replace hall := Lib.hid hall
        by_cases hlt : pos < s.size
        · have hnx : ∀ ty, (Instr.next (.pointer (some ⟨wb.heap.size, 0, none⟩)) true ty).run Try.prog wr = _ := fun ty => Lib.run_next_ascii_at wr wb.heap.size s pos ty hit hlt (hasc.out pos hlt)
          have hit2 := Lib.iterAt_heap wr wb.heap.size s pos (pos + 1) hit
          have hbi := Lib.below_iterAt hbo (k := wb.heap.size) (Nat.le_refl _) s (pos + 1)
          have hgi : wr.grownBy (wr.iterAt wb.heap.size s (pos + 1)) (some wb.heap.size) := ⟨rfl, rfl, rfl, by rw [Lib.iterAt_size]; exact Nat.le_refl _, fun i hi hr => Lib.iterAt_other wr wb.heap.size i s (pos + 1) (fun e => hr (by rw [e]))⟩
          have hcon := hcv.out (wr.iterAt wb.heap.size s (pos + 1)) ((s[pos]'hlt).toNat : Int)
          rw [encode_one hlt (hasc.out pos hlt)] at hcon
          have d0 := cell_step c0 hbi
          have d1 := cell_step c1 hbi
          have d2 := cell_step c2 hbi
          have hp := Lib.hid (presses_impl r1 r2 r3 ks as_ (s.extract pos (pos + 1)) _ (hkb1.below hbi) hv.out (by rw [ByteArray.size_extract]; omega))
          have hrowi := owns_iter hrow hgi (Nat.lt_succ_self _)
          go_wp2_with fail
          refine hp.out.mono ?_
          rintro e w2 ⟨A', n', c', rfl, hO, hb2⟩
          obtain ⟨V, cV, rfl, hOo⟩ := owns_presses rfl hrow
          have hrow2 := owns_keep hrowi hb2
          have hit3 : w2.heap[wb.heap.size]? = some (.stringIter s (pos + 1)) := (hb2.block _ (Array.getElem?_eq_some_iff.1 hit2).1).trans hit2
          have hn2 : n' ≤ 2 := hO.1 ▸ pressesL_len _ _ _
          have hlen := pressAll_len ks as_ ((chars s).take pos)
          have htk : ((chars s).take pos).length ≤ pos := by rw [List.length_take]; omega
          cases hcan : canB ks as_ (s.extract pos (pos + 1)) with
          | false =>
            have hr : Hid (pressesForR ks as_ s = ([], 3)) := Lib.hid (by
              rw [hres.out, all_not (hch.out pos hlt) hcan]
              rfl)
            clear hcan
            go_wp2
            rw [hr.out]
            go_ret2
            exact ⟨none, 0, 0, rfl, by omega, ORow.nil_, (hbb.trans (hbi.mono hbb.size)).trans (hb2.mono (Nat.le_trans hbb.size hbi.size))⟩
          | true =>
            have hn0 : 0 < n' := by
              rw [canB, Bool.not_eq_true'] at hcan
              rw [← hO.1]
              exact List.length_pos_iff.2 (fun e => by rw [e] at hcan; cases hcan)
            have hallN := Lib.hid (all_snoc (hch.out pos hlt) hcan hall.out)
            have hsn := Lib.hid (pressAll_snoc (ks := ks) (as_ := as_) (hch.out pos hlt))
            obtain ⟨g, off, _, rfl, _, _, _⟩ := hO.srow.at_ hn0
            have hflat := SRow.flat (by omega) PressD_len hO.srow
            have hone := press_one (pressesL ks as_ (s.extract pos (pos + 1)))
            have hnl : ((pressesL ks as_ (s.extract pos (pos + 1))).flatMap PressD.cells).length = n' * 2 := by rw [flat_length PressD_len, hO.1]
            have hb2sz := hb2.size
            have hbisz := hbi.size
            have hNlt : wb.heap.size < w2.heap.size := (Array.getElem?_eq_some_iff.1 hit3).1
            have hroq := Lib.hid (hrow2.lt)
            generalize hpn : (pressAll ks as_ ((chars s).take pos)).length = pn at *
            have h63 : pn + n' ≤ maxLen := by unfold maxLen; omega
            have hby : (pn + n') * 16 ≤ 140737488355328 := by omega
            clear hcan
            replace hone := Lib.hid hone
            replace hflat := Lib.hid hflat
            replace hnl := Lib.hid hnl
            go_wp2_with (at_builtin; refine wpList_append_own _ rfl _ _ 43 rfl (wb.heap.size + 1) 53 i0 _ 2 16 Try.underlying43 hi hz0 hz1 hz2 rfl (by decide) _ _ _ rfl hrow2 ⟨g, off, none⟩ n' c' _ rfl hnl.out ?c1 hone.out h63 hby ?c5 ?_)
            case c1 => exact fun j u hj => by rw [add_addr]; exact hflat.out j u hj
            case c5 => omega
            intro v' w3 hown3 hgr3 hnil
            have hrel3 : Hid (w3.ownsRow (wb.heap.size + 1) 53 2 v' (pressAll ks as_ ((chars s).take (pos + 1))).length ((pressAll ks as_ ((chars s).take (pos + 1))).flatMap PressD.cells) ∧ Below wb.heap.size wb w3 ∧ w3.heap[wb.heap.size]? = some (.stringIter s (pos + 1))) := Lib.hid (by
              refine ⟨?_, ?_, ?_⟩
              · rw [hsn.out, List.length_append, List.flatMap_append, hpn, hO.1]
                exact hown3
              · exact Below.grown (hbi.step hb2) hgr3 (by omega) (fun j hj => by have := (hroq.out j hj).1; omega)
              · exact (hgr3.block _ hNlt (fun e => by have := (hroq.out _ e.symm).1; omega)).trans hit3)
            clear hown3 hgr3 hnil
            go_wp2
            go_roundw
            case rel => exact ⟨pos + 1, hrel3.out.2.2, hrel3.out.2.1, by omega, hrel3.out.1, hallN.out⟩
            case measure => simp only [World.iterPos, hrel3.out.2.2, hit]; omega
        · have hnx : ∀ ty, (Instr.next (.pointer (some ⟨wb.heap.size, 0, none⟩)) true ty).run Try.prog wr = _ := fun ty => Lib.run_next_end_at wr wb.heap.size s pos ty hit hlt
          obtain ⟨V, cV, rfl, hOo⟩ := owns_presses rfl hrow
          have hT : (chars s).take pos = chars s := List.take_of_length_le (by rw [chars_length]; omega)
          rw [hT] at hall
          have hO2 : OPresses wr w.heap.size V (pressAll ks as_ ((chars s).take pos)).length (pressAll ks as_ (chars s)) := by
            have := hOo.mono (Nat.le_succ_of_le hbb.size)
            rwa [hT] at this ⊢
          have hr : Hid (pressesForR ks as_ s = (pressAll ks as_ (chars s), 0)) := Lib.hid (by rw [hres.out, if_pos hall.out])
          have hle := pressAll_len ks as_ (chars s)
          rw [chars_length] at hle
          have hlen' : Hid ((pressAll ks as_ ((chars s).take pos)).length ≤ 1048576) := Lib.hid (by rw [hT]; omega)
          go_wp2
          rw [hr.out]
          go_ret2
          exact ⟨V, _, cV, rfl, hlen'.out, hO2, hbb.trans (hbo.mono hbb.size)⟩
end Go.Proofs.Ytndodlfmjdgpcaa
