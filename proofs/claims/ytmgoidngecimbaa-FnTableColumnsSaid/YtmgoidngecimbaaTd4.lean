/- A table that is drawn: the walk. -/
import Derived.Test.YtmgoidngecimbaaTd3
import Derived.Deep.AppendLies
namespace Go.Proofs.Ytmgoidngecimbaa
open Go.RowKit Go.ChangeShapes Go.WideShapes Go.Deep
set_option linter.unusedVariables false
set_option linter.unusedSimpArgs false

def fullT (n : Nat) (T : List (List ByteArray)) : Prop := ∀ x ∈ T, shortL x ∧ x.length = n
theorem fullT.snoc {n : Nat} {T : List (List ByteArray)} {x : List ByteArray} (h : fullT n T) (hx : shortL x) (hl : x.length = n) : fullT n (T ++ [x]) := fun y hy => by
  rcases List.mem_append.1 hy with h1 | h1
  · exact h y h1
  · rw [List.mem_singleton] at h1
    subst h1
    exact ⟨hx, hl⟩
theorem fullT.short {n : Nat} {T : List (List ByteArray)} (h : fullT n T) (hn : n ≤ 13) : shortT T := fun x hx => ⟨(h x hx).1, by rw [(h x hx).2]; exact hn⟩
theorem SInv.at8 {base M p : Nat} {v : Value} {rs : List RowD} {T : List (List ByteArray)} {w : World} (h : SInv base M v rs T w) (hp : p < M) :
    ∃ (g c : Nat) (q : RowD) (xs : List ByteArray), v = .slice (some ⟨g, 0, none⟩) M c ∧ base ≤ g ∧ g < w.heap.size ∧ w.frozen? ⟨g, p, none⟩ = false ∧ w.cell? ⟨g, p, none⟩ = some (.slice q.A q.n q.c) ∧ rs[p]? = some q ∧ T[p]? = some xs ∧ OStrs w base q.A q.n xs ∧ q.n ≤ 1000 ∧ q.n ≤ q.c ∧ ∀ b, q.A = some b → b.block ≠ g := by
  obtain ⟨h1, h2, h3, h4, h5⟩ := h
  subst h1
  obtain ⟨A, c, rfl, hO⟩ := ORow.of_owns (fun (y : RowD) => (rfl : (RowD.cells y).length = 1)) h3
  rcases hO with ⟨hl, ⟨_, h0⟩ | ⟨g, m, f, rfl, hb, hr, hm, hf⟩⟩
  · omega
  · have hq : rs[p]? = some (rs[p]'hp) := List.getElem?_eq_getElem _
    have hx : T[p]? = some (T[p]'(by omega)) := List.getElem?_eq_getElem _
    obtain ⟨a1, a2, a3⟩ := h4 p _ _ hq hx
    obtain ⟨b2, b3⟩ := hf p _ hq 0 _ rfl
    rw [Nat.mul_one, Nat.add_zero] at b2 b3
    have hcell := hr.cell (i := p) b2
    rw [b3] at hcell
    refine ⟨g, c, _, _, rfl, hb, hr.lt, hr.frozen p, hcell, hq, hx, a1, a2, a3, fun b hb' e => ?_⟩
    exact h5 p _ b hq hb' (by simp only [Value.ownBlock]; rw [e])
theorem part8s {w : World} {A : Option Addr} {n : Nat} {ps : List ByteArray} (h : Strs w A n ps) (l k c : Nat) (h0 : l ≤ k) (h1 : k ≤ n) (hc : l < k → c ≠ l) :
    Strs w (if c = l then A else A.map (·.add (l * 1))) (k - l) ((ps.take k).drop l) := by
  refine ⟨by simp [h.1]; omega, fun hp => ?_⟩
  obtain ⟨b, off, rfl, hb, hcell⟩ := h.2 (by omega)
  rw [if_neg (hc (by omega))]
  refine ⟨b, off + l, ?_, hb, fun i x hx j u hu => ?_⟩
  · simp only [Option.map_some, Addr.add, Nat.mul_one]
    split
    · rename_i hz; simp [hz]
    · rfl
  · rw [List.getElem?_drop, List.getElem?_take] at hx
    split at hx
    · have := hcell (l + i) x hx j u hu
      rw [← this]
      congr 2
      omega
    · cases hx
/-- A row of the table is put in another's place. -/
theorem YSS.put8 {r M g : Nat} {w : World} {T : List (List ByteArray)} {rs : List RowD} {base : Nat} {c : Nat} (h : SInv base M (.slice (some ⟨g, 0, none⟩) M c) rs T w) (hr : r < base) (hM : 0 < M) (q : RowD) (ys : List ByteArray) (hys : Strs w q.A q.n ys) (hq : q.n ≤ 1000) (hqb : ∀ p, q.A = some p → p.block ≠ r ∧ p.block < w.heap.size ∧ p.block ≠ g) :
    YSS r (w.setCell ⟨g, 0, none⟩ (.slice q.A q.n q.c)) (some ⟨g, 0, none⟩) M (T.set 0 ys) := by
  obtain ⟨h1, h2, h3, h4, h5⟩ := h
  subst h1
  have hsz : (w.setCell ⟨g, 0, none⟩ (.slice q.A q.n q.c)).heap.size = w.heap.size := by simp [World.setCell]
  obtain ⟨A, c', e, hO⟩ := ORow.of_owns (fun (y : RowD) => (rfl : (RowD.cells y).length = 1)) h3
  cases e
  have hgl := hO.lt _ rfl
  have hgb := hO.own _ rfl
  rcases hO with ⟨hl, ⟨h0, _⟩ | ⟨g', m, f, e, hb, hrow, hm, hf⟩⟩
  · cases h0
  · cases e
    refine ⟨fun p hp => by cases hp; rw [hsz]; exact ⟨by simp only at hgb ⊢; omega, hgl⟩, rs.set 0 q, ⟨by simp, fun _ => ⟨g, 0, rfl, by rw [hsz]; exact hgl, fun i x hx j u hu => ?_⟩⟩, by simp [h2], fun i x xs hx hxs => ?_⟩
    · match j, hu with
      | 0, hu =>
        simp only [RowD.cells, List.getElem?_cons_zero, Option.some.injEq] at hu
        subst hu
        rw [Nat.zero_add, Nat.mul_one, Nat.add_zero]
        by_cases hi : i = 0
        · subst hi
          rw [List.getElem?_set_self (by omega)] at hx
          cases hx
          obtain ⟨b2, b3⟩ := hf 0 _ (List.getElem?_eq_getElem (by omega)) 0 _ rfl
          exact World.cell?_setCell_same _ _ _ (hrow.cell (i := 0) (by simpa using b2))
        · rw [List.getElem?_set_ne (fun e => hi e.symm)] at hx
          obtain ⟨b2, b3⟩ := hf i _ hx 0 _ rfl
          rw [Nat.mul_one, Nat.add_zero] at b2 b3
          have hne : (⟨g, 0, none⟩ : Addr) ≠ ⟨g, i, none⟩ := fun e => hi (by injection e with e1 e2 e3; exact e2.symm)
          rw [World.cell?_setCell_other _ _ _ _ hne, hrow.cell (i := i) b2, b3]
      | j + 1, hu => simp [RowD.cells] at hu
    · have hkeep : ∀ {A' : Option Addr} {n' : Nat} {zs : List ByteArray}, Strs w A' n' zs → (∀ p, A' = some p → p.block ≠ g) → Strs (w.setCell ⟨g, 0, none⟩ (.slice q.A q.n q.c)) A' n' zs := fun hs hne => hs.blk8 (by omega) (fun p hp => Below.heap_setCell _ _ _ _ (hne p hp))
      by_cases hi : i = 0
      · subst hi
        rw [List.getElem?_set_self (by omega)] at hx
        rw [List.getElem?_set_self (by omega)] at hxs
        cases hx; cases hxs
        exact ⟨hkeep hys (fun p hp => (hqb p hp).2.2), hq, fun p hp => ⟨(hqb p hp).1, by rw [hsz]; exact (hqb p hp).2.1⟩⟩
      · rw [List.getElem?_set_ne (fun e => hi e.symm)] at hx hxs
        obtain ⟨a1, a2, a3⟩ := h4 i x xs hx hxs
        have hne : ∀ p, x.A = some p → p.block ≠ g := fun p hp e => h5 i x p hx hp (by simp only [Value.ownBlock]; rw [e])
        exact ⟨hkeep a1.srow hne, a2, fun p hp => ⟨by have := a1.own p hp; omega, by rw [hsz]; exact a1.lt p hp⟩⟩
theorem shortT.put {T : List (List ByteArray)} {ys : List ByteArray} (h : shortT T) (hy : shortL ys ∧ ys.length ≤ 13) : shortT (T.set 0 ys) := fun x hx => by
  rcases List.mem_or_eq_of_mem_set hx with h1 | rfl
  · exact h x h1
  · exact hy

set_option maxRecDepth 100000 in
set_option maxHeartbeats 12800000 in
theorem l08table_any (r t : Nat) (w : World) (h : SrcAt w r t) (ht : t ≤ 100000) :
    Calls Try.prog 27 #[.pointer (some ⟨r, 0, none⟩)] w (TbOut r t w) := by
  have hrl := h.lt
  obtain ⟨i0, hi, hz0, hz1, hz2⟩ := info_parts Try.infoStrS
  obtain ⟨j0, hj, hy0, hy1, hy2⟩ := info_parts Try.infoStr
  have hb0 := below_a1 w (.cells #[] 27)
  have hs0 := h.below hb0
  have hd0 := Lib.hid ((Drawn.refl r w.heap.size w).below hb0 (Nat.le_refl _))
  have hN0 := hb0.size
  have hR0 : Hid (SInv w.heap.size 0 (.slice (some ⟨w.heap.size, 0, none⟩) 0 0) [] [] (w.alloc (.cells #[] 27))) := Lib.hid ⟨rfl, rfl, empty_owns w _ _ (Nat.le_refl _), (fun i r xs hr => by simp at hr), (fun i r p hr => by simp at hr)⟩
  clear hb0 h
  go_enter Try.func27, Try.ntmps27
  go_wp2_with fail
  generalize w.alloc (.cells #[] 27) = wz at *
  have hp1 := Lib.hid (pick_any _ _ 4 wz hs0 (by omega) (by omega))
  clear hs0
  go_wp2_with fail
  refine hp1.out.mono ?_
  rintro e wa1 ⟨x, rfl, x0, x1, x2, hs1, hg1⟩
  have hd1 := Lib.hid (hd0.out.pick hg1 (by omega))
  have hsz1 := hd1.out.size
  have hzz1 := hg1.size
  have hR1 := Lib.hid (hR0.out.kept (fun g h1 h2 => hg1.block g h2 (fun e => by have e2 := Option.some.inj e; omega)))
  clear hg1 hp1 hd0 hR0
  have x1 := x1 (by omega)
  obtain ⟨n, ne⟩ : ∃ n : Nat, (n : Int) = 1 + x := ⟨(1 + x).toNat, by omega⟩
  have nw : IntKind.i64.wrap (1 + x) = (n : Int) := by rw [IntWalk.i64_in _ (by omega), ne]
  have nl : 1 ≤ n ∧ n ≤ 4 := by omega
  clear ne x0 x1 x2
  have hp2 := Lib.hid (one_any _ _ 20 wa1 hs1 (by omega) (by omega))
  clear hs1
  go_wp2_with fail
  refine hp2.out.mono ?_
  rintro e wa2 ⟨b, rfl, hs2, hg2⟩
  have hd2 := Lib.hid (hd1.out.pick hg2 (by omega))
  have hsz2 := hd2.out.size
  have hzz2 := hg2.size
  have hR2 := Lib.hid (hR1.out.kept (fun g h1 h2 => hg2.block g h2 (fun e => by have e2 := Option.some.inj e; omega)))
  clear hg2 hp2 hd1 hR1
  cases b with
  | false =>
    have hp3 := Lib.hid (pick_any _ _ 4 wa2 hs2 (by omega) (by omega))
    clear hs2
    go_wp2_with fail
    refine hp3.out.mono ?_
    rintro e wa3 ⟨y, rfl, y0, y1, y2, hs3, hg3⟩
    have hd3 := Lib.hid (hd2.out.pick hg3 (by omega))
    have hsz3 := hd3.out.size
    have hzz3 := hg3.size
    have hR3 := Lib.hid (hR2.out.kept (fun g h1 h2 => hg3.block g h2 (fun e => by have e2 := Option.some.inj e; omega)))
    clear hg3 hp3 hd2 hR2
    have y1 := y1 (by omega)
    obtain ⟨M, Me⟩ : ∃ M : Nat, (M : Int) = 1 + y := ⟨(1 + y).toNat, by omega⟩
    have Mw : IntKind.i64.wrap (1 + y) = (M : Int) := by rw [IntWalk.i64_in _ (by omega), Me]
    have Ml : 1 ≤ M ∧ M ≤ 4 := by omega
    clear Me y0 y1 y2
    have hp4 := Lib.hid (one_any _ _ 20 wa3 hs3 (by omega) (by omega))
    clear hs3
    go_wp2_with fail
    refine hp4.out.mono ?_
    rintro e wa4 ⟨d, rfl, hs4, hg4⟩
    have hd4 := Lib.hid (hd3.out.pick hg4 (by omega))
    have hsz4 := hd4.out.size
    have hzz4 := hg4.size
    have hR4 := Lib.hid (hR3.out.kept (fun g h1 h2 => hg4.block g h2 (fun e => by have e2 := Option.some.inj e; omega)))
    clear hg4 hp4 hd3 hR3
    cases d with
    | false =>
      go_wp2
      go_loopw [3, 6] (fun v kv wr => ∃ (k : Nat) (rs : List RowD) (T : List (List ByteArray)), kv = .int .i64 (k : Int) ∧ T.length + k = M ∧ SInv w.heap.size T.length v rs T wr ∧ fullT n T ∧ SrcAt wr r (t + 20 + 40 * T.length) ∧ Drawn r w.heap.size w wr ∧ w.heap.size ≤ wr.heap.size) (fun _ kv _ => (intOf kv).toNat)
      case atStart => exact ⟨M, [], [], rfl, by simp, hR4.out, (fun x hx => by cases hx), hs4.mono (by simp), hd4.out, by omega⟩
      case round =>
        obtain ⟨k, rs, T, rfl, hTk, hR, hT, hsr, hdr, hNr⟩ := hrel
        rename World => wo
        have hTl : T.length ≤ 41 := by omega
        have hrlo : r < wo.heap.size := hsr.lt
        replace hR := Lib.hid hR
        replace hT := Lib.hid hT
        replace hdr := Lib.hid hdr
        by_cases hk : 0 < k
        · have hg : decide ((0 : Int) < (k : Int)) = true := decide_eq_true (by omega)
          obtain ⟨A5, c5, hv5, _⟩ := hR.out.yss (r := r) (by omega)
          subst hv5
          have hk41 : k ≤ 41 := by omega
          replace hTk := Lib.hid hTk
          generalize hTn : T.length = q at *
          replace hTn := Lib.hid hTn
          have hb1 := below_a1 wo (.cells #[] 9)
          have hs1 := Lib.hid (hsr.below hb1)
          have hd1 := Lib.hid ((Drawn.refl r wo.heap.size wo).below hb1 (Nat.le_refl _))
          have hN1 := Lib.hid hb1.size
          have ho1 := Lib.hid (empty_owns wo 9 wo.heap.size (Nat.le_refl _))
          clear hb1 hsr
          go_wp2
          go_loopw [7, 8] (fun v jv wq => ∃ (xs : List ByteArray) (j : Nat), jv = .int .i64 (j : Int) ∧ xs.length + j = n ∧ wq.ownsRow wo.heap.size 9 1 v xs.length (xs.flatMap strC) ∧ shortL xs ∧ SrcAt wq r (t + 20 + 40 * q + 2 * xs.length) ∧ Drawn r wo.heap.size wo wq ∧ wo.heap.size ≤ wq.heap.size) (fun _ jv _ => (intOf jv).toNat)
          case atStart => exact ⟨[], n, rfl, by simp, ho1.out, (fun x hx => by cases hx), hs1.out.mono (by simp), hd1.out, hN1.out⟩
          case round =>
            obtain ⟨xs, j, rfl, hxj, hown, hxs, hsq, hdq, hNq⟩ := hrel
            rename World => wq
            have hxl : xs.length ≤ 13 := by omega
            replace hxs := Lib.hid hxs
            replace hdq := Lib.hid hdq
            have hj13 : j ≤ 13 := by omega
            replace hxj := Lib.hid hxj
            by_cases hj0 : 0 < j
            · have hgj : decide ((0 : Int) < (j : Int)) = true := decide_eq_true (by omega)
              obtain ⟨A7, c7, rfl⟩ := owns_slice hown
              have hcl := Lib.hid (l08cell_any r _ wq hsq (by omega))
              replace hown := Lib.hid hown
              clear hsq
              go_wp2_with fail
              refine hcl.out.mono ?_
              rintro e w3 ⟨a, rfl, hsa, hs3, hd3⟩
              have hown3 := Lib.hid (owns_block hown.out (fun g hg => hd3.block g (ge_own5 hown.out hg).2 (by have := (ge_own5 hown.out hg).1; omega)))
              have hd33 := Lib.hid (hdq.out.trans (hd3.down (by omega)))
              have hN3 := Nat.le_trans hNq hd3.size
              have hsx := Lib.hid (hxs.out.snoc hsa)
              have hln : Hid ((xs ++ [a] : List ByteArray).length = xs.length + 1) := Lib.hid (by simp)
              have hfl := Lib.hid (snoc8s xs a)
              have hlj : Hid ((xs ++ [a] : List ByteArray).length + (j - 1) = n) := Lib.hid (by rw [hln.out]; have := hxj.out; omega)
              replace hs3 := Lib.hid hs3
              clear hcl hd3 hown hdq hsa hxs hxj
              generalize hpn : xs.length = pn at *
              go_wp2_with (at_builtin; refine wpList_append_own _ rfl _ _ 27 rfl wo.heap.size 9 j0 _ 1 16 Try.underlying27 hj hy0 hy1 hy2 rfl (by decide) _ _ _ rfl (hown3.out.alloc _) ⟨w3.heap.size, 0, none⟩ 1 1 [.string a] rfl rfl (news8 _ _ _) (one8s _) (by unfold maxLen; omega) (by omega) (by simp; omega) ?_)
              intro v2 w5 hown5 hgr5 hnil
              clear hnil
              have hrow5 : Hid (w5.ownsRow wo.heap.size 9 1 v2 (xs ++ [a] : List ByteArray).length ((xs ++ [a] : List ByteArray).flatMap strC)) := Lib.hid (by rw [hln.out, hfl.out]; exact hown5)
              have hd5 := Lib.hid ((hd33.out.below (below_a1 w3 _) hN3).youngO hgr5 (by simp; omega) (fun q hq => (ge_own5 hown3.out hq).1))
              have hs5 : Hid (SrcAt w5 r (t + 20 + 40 * q + 2 * (xs ++ [a] : List ByteArray).length)) := Lib.hid (((hs3.out.below (below_a1 w3 _)).grownO hgr5 (fun q hq => by have := (ge_own5 hown3.out hq).1; omega)).mono (by rw [hln.out]; omega))
              have hN5 : wo.heap.size ≤ w5.heap.size := by have := hgr5.size; simp at this; omega
              clear hown5 hgr5
              go_wp2
              go_roundw
              case rel => exact ⟨xs ++ [a], j - 1, by rw [Int.natCast_sub (by omega)]; rfl, hlj.out, hrow5.out, hsx.out, hs5.out, hd5.out, hN5⟩
              case measure => simp [intOf]; omega
            · obtain rfl : j = 0 := by omega
              have hgj : decide ((0 : Int) < ((0 : Nat) : Int)) = false := rfl
              have hxn : xs.length = n := by have := hxj.out; omega
              obtain ⟨A7, c7, rfl, hO7⟩ := owns_s8 rfl hown
              have hcap7 := owns_cap hown
              have hRq := hR.out.kept (w' := wq) (fun g hg1 hg2 => hdq.out.block g hg2 (by omega))
              have hM : ∀ g, (Value.slice A5 q c5).ownBlock = some g → g < wo.heap.size := fun g hg => (ge_own5 hR.out.2.2.1 hg).2
              have hown9 := Lib.hid hRq.2.2.1
              have hstep := Lib.hid (fun g cap w5 => hRq.step (c := c7) (g := g) (cap := cap) (w5 := w5) hM hNr (below_a1 wq (.cells #[.slice A7 xs.length c7] 27)) hO7 ⟨by omega, hcap7⟩)
              have hTn2 := Lib.hid (hT.out.snoc hxs.out hxn)
              have hsq' := Lib.hid hsq
              have hdq' : Hid (Drawn r w.heap.size w wq) := Lib.hid (hdr.out.trans (hdq.out.down hNr))
              have hlnT : Hid ((T ++ [xs] : List (List ByteArray)).length = q + 1) := Lib.hid (by rw [List.length_append, hTn.out]; rfl)
              replace hxn := Lib.hid hxn
              clear hM hO7 hown hsq hdq hRq hcap7 hxs
              go_wp2_with (at_builtin; refine wpList_append_lies _ rfl _ _ 24 rfl w.heap.size 27 i0 _ 1 24 Try.underlying24 hi hz0 hz1 hz2 rfl (by decide) _ q (rs.flatMap RowD.cells) rfl (hown9.out.alloc _) ⟨wq.heap.size, 0, none⟩ 1 1 [.slice A7 xs.length c7] rfl rfl ?a3 ?b3 (by decide) ?c3 ?d3 ?e3 _ rfl ?_)
              case a3 =>
                intro j u hj
                match j, hj with
                | 0, hj => cases hj; exact cell_new (by simp [Addr.add]) rfl
                | j + 1, hj => simp at hj
              case b3 =>
                intro u hu
                simp only [List.mem_cons, List.not_mem_nil, or_false] at hu
                rcases hu with rfl; rfl
              case c3 => unfold maxLen; omega
              case d3 => omega
              case e3 => simp; omega
              intro g cap w5 ho5 hg5 hor5 hlt5
              have hR5 := Lib.hid (hstep.out g cap w5 ho5 hg5 (by simpa using hor5))
              have hd5 := Lib.hid ((hdq'.out.below (below_a1 wq _) (by omega)).youngO hg5 (by simp; omega) (fun q hq => (ge_own5 hown9.out hq).1))
              have hs5 : Hid (SrcAt w5 r (t + 20 + 40 * (T ++ [xs] : List (List ByteArray)).length)) := Lib.hid (((hsq'.out.below (below_a1 wq _)).grownO hg5 (fun q hq => by have := (ge_own5 hown9.out hq).1; omega)).mono (by rw [hlnT.out]; omega))
              have hN5 : w.heap.size ≤ w5.heap.size := by have := hg5.size; simp at this; omega
              have hlk : Hid ((T ++ [xs] : List (List ByteArray)).length + (k - 1) = M) := Lib.hid (by rw [hlnT.out]; have := hTk.out; omega)
              clear ho5 hg5 hor5
              go_wp2
              go_roundw
              case rel => exact ⟨k - 1, rs ++ [⟨A7, xs.length, c7⟩], T ++ [xs], by rw [Int.natCast_sub (by omega)]; rfl, hlk.out, by rw [hlnT.out]; exact hR5.out, hTn2.out, hs5.out, hd5.out, hN5⟩
              case measure => simp [intOf]; omega
        · obtain rfl : k = 0 := by omega
          have hg : decide ((0 : Int) < ((0 : Nat) : Int)) = false := rfl
          have hTM : T.length = M := by omega
          rw [hTM] at hR hsr
          have hTs := Lib.hid (hT.out.short (by omega))
          replace hTM := Lib.hid hTM
          replace hsr := hsr.mono (show t + 20 + 40 * M ≤ t + 2000 by omega)
          clear hTk hTl
          by_cases hpos : 0 < M
          · have hgt : decide ((0 : Int) < (M : Int)) = true := decide_eq_true (by omega)
            have hp5 := Lib.hid (pick_any _ _ (M : Int) wo hsr (by omega) (by omega))
            clear hsr
            go_wp2_with fail
            refine hp5.out.mono ?_
            rintro e wa5 ⟨px, rfl, px0, px1, px2, hs5, hg5⟩
            have hd5 := Lib.hid (hdr.out.pick hg5 (by omega))
            have hsz5 := hd5.out.size
            have hzz5 := hg5.size
            have hR5 := Lib.hid (hR.out.kept (fun g h1 h2 => hg5.block g h2 (fun e => by have e2 := Option.some.inj e; omega)))
            clear hg5 hp5 hdr hR
            obtain ⟨p, hpM, rfl⟩ : ∃ p : Nat, p < M ∧ px = (p : Int) := ⟨px.toNat, by omega, by omega⟩
            clear px0 px1 px2
            obtain ⟨g, c, q1, xs, rfl, hgb, hgl, hgf, hgc, hq1, hx1, hO1, hq1n, hq1c, hq1g⟩ := hR5.out.at8 hpM
            have hTx := hT.out xs (List.mem_of_getElem? hx1)
            have hxn : q1.n = n := by rw [← hO1.1]; exact hTx.2
            have hp0 : (0 : Int) ≤ (p : Int) := Int.natCast_nonneg _
            have hp1 : (p : Int) < (M : Int) := by omega
            replace hO1 := Lib.hid hO1
            replace hq1g := Lib.hid hq1g
            obtain ⟨B, nq, cq⟩ := q1
            dsimp only at hxn hgc hO1 hq1c hq1g
            obtain rfl : n = nq := hxn.symm
            replace hTx := Lib.hid hTx
            clear hq1 hx1 hq1n
            obtain ⟨gb, rfl⟩ : ∃ gb, B = some ⟨gb, 0, none⟩ := by
              rcases hO1.out with ⟨_, ⟨_, h0⟩ | ⟨g, m, f, h1, _⟩⟩
              · omega
              · exact ⟨g, h1⟩
            have hpp := Lib.hid (pick_any _ _ 16 wa5 hs5 (by omega) (by omega))
            clear hs5
            go_wp2_with fail
            refine hpp.out.mono ?_
            rintro e wx8 ⟨x, rfl, x0, _, _, hsx8, hgx8⟩
            have hzx8 := hgx8.size
            have hdx8 := Lib.hid (hd5.out.pick hgx8 (by omega))
            have hblkx8 := Lib.hid hgx8.block
            have hRx8 := Lib.hid (hR5.out.kept (fun g h1 h2 => hgx8.block g h2 (fun e => by have e2 := Option.some.inj e; omega)))
            have hO8 := Lib.hid (hO1.out.block (fun p hp => hgx8.block _ (hO1.out.lt p hp) (fun e => by have := hO1.out.own p hp; have e2 := Option.some.inj e; omega)))
            replace hsx8 := hsx8.mono (show t + 2000 + 2 + 2 ≤ t + 3000 by omega)
            clear hpp hgx8 hd5 hR5 hO1 hgc hgf hblkx8
            by_cases hx0 : x = 0
            · have g0 : (x == 0) = true := beq_iff_eq.2 hx0
              replace hx0 := Lib.hid hx0
              have hbx9 := below_a1 wx8 (.cells #[.string ⟨#[127]⟩, .string ⟨#[49, 50, 51, 52, 53, 54, 55, 56, 57, 48, 49, 50, 51, 52, 53, 54, 55, 56, 57, 48, 49, 50, 51, 52, 53, 54, 55, 56, 57, 48]⟩, .string ⟨#[49, 50, 51, 52, 53, 54, 55, 56, 57, 48, 49, 50, 51, 52, 53, 54, 55, 56, 57, 48, 49, 50, 51, 52, 53, 54, 55, 56, 57, 48, 49]⟩] 9)
              have hlx9 : Strs (wx8.alloc (.cells #[.string ⟨#[127]⟩, .string ⟨#[49, 50, 51, 52, 53, 54, 55, 56, 57, 48, 49, 50, 51, 52, 53, 54, 55, 56, 57, 48, 49, 50, 51, 52, 53, 54, 55, 56, 57, 48]⟩, .string ⟨#[49, 50, 51, 52, 53, 54, 55, 56, 57, 48, 49, 50, 51, 52, 53, 54, 55, 56, 57, 48, 49, 50, 51, 52, 53, 54, 55, 56, 57, 48, 49]⟩] 9)) (some ⟨wx8.heap.size, 0, none⟩) 3 [⟨#[127]⟩, ⟨#[49, 50, 51, 52, 53, 54, 55, 56, 57, 48, 49, 50, 51, 52, 53, 54, 55, 56, 57, 48, 49, 50, 51, 52, 53, 54, 55, 56, 57, 48]⟩, ⟨#[49, 50, 51, 52, 53, 54, 55, 56, 57, 48, 49, 50, 51, 52, 53, 54, 55, 56, 57, 48, 49, 50, 51, 52, 53, 54, 55, 56, 57, 48, 49]⟩] := slit8 wx8 9 [⟨#[127]⟩, ⟨#[49, 50, 51, 52, 53, 54, 55, 56, 57, 48, 49, 50, 51, 52, 53, 54, 55, 56, 57, 48, 49, 50, 51, 52, 53, 54, 55, 56, 57, 48]⟩, ⟨#[49, 50, 51, 52, 53, 54, 55, 56, 57, 48, 49, 50, 51, 52, 53, 54, 55, 56, 57, 48, 49, 50, 51, 52, 53, 54, 55, 56, 57, 48, 49]⟩] 3 rfl
              have hsx9 := hsx8.below hbx9
              have hdx9 := Lib.hid (hdx8.out.below hbx9 (by omega))
              have hRx9 := Lib.hid (hRx8.out.kept (fun g h1 h2 => hbx9.block g h2))
              have hO9 := Lib.hid (hO8.out.below hbx9)
              have hzx9 := hbx9.size
              have hne9 : ∀ p : Addr, (some ⟨wx8.heap.size, 0, none⟩ : Option Addr) = some p → p.block ≠ r := fun p hp => by cases hp; simp only; omega
              have hsl9 := Lib.hid (shortAll.out (show shortAll [⟨#[127]⟩, ⟨#[49, 50, 51, 52, 53, 54, 55, 56, 57, 48, 49, 50, 51, 52, 53, 54, 55, 56, 57, 48, 49, 50, 51, 52, 53, 54, 55, 56, 57, 48]⟩, ⟨#[49, 50, 51, 52, 53, 54, 55, 56, 57, 48, 49, 50, 51, 52, 53, 54, 55, 56, 57, 48, 49, 50, 51, 52, 53, 54, 55, 56, 57, 48, 49]⟩] = true by decide))
              have hpx9 := Lib.hid (text_any r _ _ 3 3 _ _ hsx9 (by omega) hlx9 (by omega) (by omega) hne9)
              clear hbx9 hlx9 hsx9 hne9 hsx8 hdx8 hRx8 hO8
              have hn0 : 0 < n := by omega
              have hn0' : (0 : Int) < (n : Int) := by omega
              go_wp2_with fail
              refine hpx9.out.mono ?_
              rintro e wt ⟨z, zm, rfl, hst, hgt9⟩
              have hzt := hgt9.size
              have hdt := hdx9.out.pick hgt9 (by omega)
              have hRt := hRx9.out.kept (fun g h1 h2 => hgt9.block g h2 (fun e => by have e2 := Option.some.inj e; omega))
              have hOt : OStrs wt w.heap.size (some ⟨gb, 0, none⟩) n xs := hO9.out.block (fun p hp => hgt9.block _ (hO9.out.lt p hp) (fun e => by have := hO9.out.own p hp; have e2 := Option.some.inj e; omega))
              have hzs := hsl9.out z zm
              obtain ⟨y, p0, p1, p2, p3⟩ := hOt.parts8 hn0
              obtain ⟨A', c', e', hY⟩ := hRt.yss (r := r) (by omega)
              cases e'
              obtain ⟨T', hY', hT'⟩ := hY.stored (g := gb) (o := 0) (fun p hp => by cases hp; exact fun e => hq1g.out _ rfl e.symm) z hzs hTs.out
              have hgg : wt.grownBy (wt.setCell ⟨gb, 0, none⟩ (.string z)) (some gb) := grown_set
              have hdf := Lib.hid (hdt.young hgg (by omega) (by omega))
              have hsf := Lib.hid ((hst.grown hgg (by omega)).mono (show t + 3000 + 2 ≤ t + 4000 by omega))
              replace hY' := Lib.hid hY'
              replace hT' := Lib.hid hT'
              clear hpx9 hsl9 hgt9 hdx9 hRx9 hO9 hdt hRt hOt hst hgg hY zm hzs
              go_wp2
              go_ret
              exact ⟨_, M, _, T', rfl, by omega, hY'.out, hT'.out, hsf.out, hdf.out⟩
            · have g0 : (x == 0) = false := beq_eq_false_iff_ne.2 hx0
              replace hx0 := Lib.hid hx0
              by_cases hx1 : x = 1
              · have g1 : (x == 1) = true := beq_iff_eq.2 hx1
                replace hx1 := Lib.hid hx1
                obtain ⟨g', c', q2, ys, e', hgb2, hgl2, hgf2, hgc2, hq2, hx2, hO2, hq2n, hq2c, hq2g⟩ := hRx8.out.at8 hpos
                cases e'
                have hTy := hT.out ys (List.mem_of_getElem? hx2)
                have hyn : q2.n = n := by rw [← hO2.1]; exact hTy.2
                obtain ⟨B2, nr, c2⟩ := q2
                dsimp only at hyn hgc2 hO2 hq2c hq2g hq2n
                obtain rfl : n = nr := hyn.symm
                have hn1 : 1 ≤ n := by omega
                have hn1' : (1 : Int) ≤ (n : Int) := by omega
                have hnc : (n : Int) ≤ (c2 : Int) := by omega
                have hM0 : (0 : Int) < (M : Int) := by omega
                replace hO2 := Lib.hid hO2
                replace hq2g := Lib.hid hq2g
                replace hTy := Lib.hid hTy
                have hpt := Lib.hid (part8s hO2.out.srow 1 n c2 hn1 (Nat.le_refl _) (fun h => by omega))
                have hyl := Lib.hid hO2.out.1
                have hty : Hid (ys.take n = ys) := Lib.hid (List.take_of_length_le (by rw [hyl.out]; exact Nat.le_refl _))
                have hT' := Lib.hid (hTs.out.put (ys := ys.drop 1) ⟨fun x hx => hTy.out.1 x (List.mem_of_mem_drop hx), by rw [List.length_drop, hTy.out.2]; omega⟩)
                by_cases hc1 : c2 = 1
                · subst hc1
                  have hn1e : Hid (n = 1) := Lib.hid (by omega)
                  have hI3 : Strs wx8 B2 0 (ys.drop 1) := by
                    have := hpt.out
                    rw [hty.out, hn1e.out] at this
                    simpa using this
                  have hqb : ∀ p, (B2) = some p → p.block ≠ r ∧ p.block < wx8.heap.size ∧ p.block ≠ g := fun p hp => by
                    obtain ⟨b, hb, hbp⟩ : ∃ b, B2 = some b ∧ p.block = b.block := by
                      exact ⟨p, hp, rfl⟩
                    have h1 := hO2.out.own b hb
                    have h2 := hO2.out.lt b hb
                    have h3 := hq2g.out b hb
                    rw [hbp]
                    exact ⟨by omega, h2, h3⟩
                  have hY := Lib.hid (YSS.put8 hRx8.out hrl hpos ⟨B2, 0, 0⟩ (ys.drop 1) hI3 (by dsimp only; omega) hqb)
                  have hgg : wx8.grownBy (wx8.setCell ⟨g, 0, none⟩ (.slice B2 0 0)) (some g) := grown_set
                  have hdf := Lib.hid (hdx8.out.young hgg (by omega) hgb)
                  have hsf := Lib.hid ((hsx8.grown hgg (by omega)).mono (show t + 3000 ≤ t + 4000 by omega))
                  clear hI3 hqb hgg hdx8 hsx8 hRx8 hO8 hO2 hTy hq2 hx2 hq2g hpt hyl hty
                  go_wp2
                  go_ret
                  exact ⟨_, M, _, _, rfl, by omega, hY.out, hT'.out, hsf.out, hdf.out⟩
                · have hcz : 1 ≤ c2 - 1 := by omega
                  have hI3 : Strs wx8 (B2.map (fun (x : Addr) => (⟨x.block, x.off + 1, none⟩ : Addr))) (n - 1) (ys.drop 1) := by
                    have := hpt.out
                    rw [hty.out] at this
                    simpa [Addr.add, hc1] using this
                  have hqb : ∀ p, (B2.map (fun (x : Addr) => (⟨x.block, x.off + 1, none⟩ : Addr))) = some p → p.block ≠ r ∧ p.block < wx8.heap.size ∧ p.block ≠ g := fun p hp => by
                    obtain ⟨b, hb, hbp⟩ : ∃ b, B2 = some b ∧ p.block = b.block := by
                      cases B2 with
                      | none => simp at hp
                      | some b =>
                        simp only [Option.map_some, Option.some.injEq] at hp
                        subst hp
                        exact ⟨b, rfl, rfl⟩
                    have h1 := hO2.out.own b hb
                    have h2 := hO2.out.lt b hb
                    have h3 := hq2g.out b hb
                    rw [hbp]
                    exact ⟨by omega, h2, h3⟩
                  have hY := Lib.hid (YSS.put8 hRx8.out hrl hpos ⟨B2.map (fun (x : Addr) => (⟨x.block, x.off + 1, none⟩ : Addr)), n - 1, c2 - 1⟩ (ys.drop 1) hI3 (by dsimp only; omega) hqb)
                  have hgg : wx8.grownBy (wx8.setCell ⟨g, 0, none⟩ (.slice (B2.map (fun (x : Addr) => (⟨x.block, x.off + 1, none⟩ : Addr))) (n - 1) (c2 - 1))) (some g) := grown_set
                  have hdf := Lib.hid (hdx8.out.young hgg (by omega) hgb)
                  have hsf := Lib.hid ((hsx8.grown hgg (by omega)).mono (show t + 3000 ≤ t + 4000 by omega))
                  clear hI3 hqb hgg hdx8 hsx8 hRx8 hO8 hO2 hTy hq2 hx2 hq2g hpt hyl hty
                  go_wp2
                  go_ret
                  exact ⟨_, M, _, _, rfl, by omega, hY.out, hT'.out, hsf.out, hdf.out⟩
              · have g1 : (x == 1) = false := beq_eq_false_iff_ne.2 hx1
                replace hx1 := Lib.hid hx1
                obtain ⟨A', c', e', hY⟩ := hRx8.out.yss (r := r) (by omega)
                cases e'
                replace hY := Lib.hid hY
                have hsf := Lib.hid (hsx8.mono (show t + 3000 ≤ t + 4000 by omega))
                clear hsx8 hRx8 hO8
                go_wp2
                go_ret
                exact ⟨_, M, _, T, rfl, by omega, hY.out, hTs.out, hsf.out, hdx8.out⟩
          · have hgt : decide ((0 : Int) < (M : Int)) = false := decide_eq_false (by omega)
            obtain ⟨A', c', rfl, hY⟩ := hR.out.yss (r := r) (by omega)
            replace hY := Lib.hid hY
            have hsf := Lib.hid (hsr.mono (show t + 2000 ≤ t + 4000 by omega))
            clear hsr hR
            go_wp2
            go_ret
            exact ⟨_, M, _, T, rfl, by omega, hY.out, hTs.out, hsf.out, hdr.out⟩
    | true =>
      have hb6 := below_a1 wa4 (.cells #[.int .i64 0, .int .i64 40, .int .i64 41] 2)
      have hl6 := (show Ints (wa4.alloc (.cells #[.int .i64 0, .int .i64 40, .int .i64 41] 2)) (some ⟨wa4.heap.size, 0, none⟩) 3 [0, 40, 41] from lit8 wa4 2 [0, 40, 41] 3 rfl)
      have hs6 := hs4.below hb6
      have hd6 := Lib.hid (hd4.out.below hb6 (by omega))
      have hsz6 := hd6.out.size
      have hzz6 := hb6.size
      have hR6 := Lib.hid (hR4.out.kept (fun g h1 h2 => hb6.block g h2))
      have hn6 : ∀ p : Addr, (some ⟨wa4.heap.size, 0, none⟩ : Option Addr) = some p → p.block ≠ r := fun p hp => by cases hp; simp only; omega
      clear hb6 hs4 hd4 hR4
      have hp7 := Lib.hid (among_any _ _ _ 3 3 _ _ hs6 (by omega) hl6 (by omega) (by omega) hn6)
      clear hs6
      go_wp2_with fail
      refine hp7.out.mono ?_
      rintro e wa7 ⟨z, zm, rfl, hs7, hg7⟩
      have hd7 := Lib.hid (hd6.out.pick hg7 (by omega))
      have hsz7 := hd7.out.size
      have hzz7 := hg7.size
      have hR7 := Lib.hid (hR6.out.kept (fun g h1 h2 => hg7.block g h2 (fun e => by have e2 := Option.some.inj e; omega)))
      clear hg7 hp7 hd6 hR6
      obtain ⟨M2, hM2, rfl⟩ : ∃ m : Nat, m ≤ 41 ∧ z = (m : Int) := by
        simp only [List.mem_cons, List.not_mem_nil, or_false] at zm
        rcases zm with rfl | rfl | rfl
        · exact ⟨0, by omega, rfl⟩
        · exact ⟨40, by omega, rfl⟩
        · exact ⟨41, by omega, rfl⟩
      clear zm
      go_wp2
      go_loopw [3, 6] (fun v kv wr => ∃ (k : Nat) (rs : List RowD) (T : List (List ByteArray)), kv = .int .i64 (k : Int) ∧ T.length + k = M2 ∧ SInv w.heap.size T.length v rs T wr ∧ fullT n T ∧ SrcAt wr r (t + 20 + 40 * T.length) ∧ Drawn r w.heap.size w wr ∧ w.heap.size ≤ wr.heap.size) (fun _ kv _ => (intOf kv).toNat)
      case atStart => exact ⟨M2, [], [], rfl, by simp, hR7.out, (fun x hx => by cases hx), hs7.mono (by simp), hd7.out, by omega⟩
      case round =>
        obtain ⟨k, rs, T, rfl, hTk, hR, hT, hsr, hdr, hNr⟩ := hrel
        rename World => wo
        have hTl : T.length ≤ 41 := by omega
        have hrlo : r < wo.heap.size := hsr.lt
        replace hR := Lib.hid hR
        replace hT := Lib.hid hT
        replace hdr := Lib.hid hdr
        by_cases hk : 0 < k
        · have hg : decide ((0 : Int) < (k : Int)) = true := decide_eq_true (by omega)
          obtain ⟨A5, c5, hv5, _⟩ := hR.out.yss (r := r) (by omega)
          subst hv5
          have hk41 : k ≤ 41 := by omega
          replace hTk := Lib.hid hTk
          generalize hTn : T.length = q at *
          replace hTn := Lib.hid hTn
          have hb1 := below_a1 wo (.cells #[] 9)
          have hs1 := Lib.hid (hsr.below hb1)
          have hd1 := Lib.hid ((Drawn.refl r wo.heap.size wo).below hb1 (Nat.le_refl _))
          have hN1 := Lib.hid hb1.size
          have ho1 := Lib.hid (empty_owns wo 9 wo.heap.size (Nat.le_refl _))
          clear hb1 hsr
          go_wp2
          go_loopw [7, 8] (fun v jv wq => ∃ (xs : List ByteArray) (j : Nat), jv = .int .i64 (j : Int) ∧ xs.length + j = n ∧ wq.ownsRow wo.heap.size 9 1 v xs.length (xs.flatMap strC) ∧ shortL xs ∧ SrcAt wq r (t + 20 + 40 * q + 2 * xs.length) ∧ Drawn r wo.heap.size wo wq ∧ wo.heap.size ≤ wq.heap.size) (fun _ jv _ => (intOf jv).toNat)
          case atStart => exact ⟨[], n, rfl, by simp, ho1.out, (fun x hx => by cases hx), hs1.out.mono (by simp), hd1.out, hN1.out⟩
          case round =>
            obtain ⟨xs, j, rfl, hxj, hown, hxs, hsq, hdq, hNq⟩ := hrel
            rename World => wq
            have hxl : xs.length ≤ 13 := by omega
            replace hxs := Lib.hid hxs
            replace hdq := Lib.hid hdq
            have hj13 : j ≤ 13 := by omega
            replace hxj := Lib.hid hxj
            by_cases hj0 : 0 < j
            · have hgj : decide ((0 : Int) < (j : Int)) = true := decide_eq_true (by omega)
              obtain ⟨A7, c7, rfl⟩ := owns_slice hown
              have hcl := Lib.hid (l08cell_any r _ wq hsq (by omega))
              replace hown := Lib.hid hown
              clear hsq
              go_wp2_with fail
              refine hcl.out.mono ?_
              rintro e w3 ⟨a, rfl, hsa, hs3, hd3⟩
              have hown3 := Lib.hid (owns_block hown.out (fun g hg => hd3.block g (ge_own5 hown.out hg).2 (by have := (ge_own5 hown.out hg).1; omega)))
              have hd33 := Lib.hid (hdq.out.trans (hd3.down (by omega)))
              have hN3 := Nat.le_trans hNq hd3.size
              have hsx := Lib.hid (hxs.out.snoc hsa)
              have hln : Hid ((xs ++ [a] : List ByteArray).length = xs.length + 1) := Lib.hid (by simp)
              have hfl := Lib.hid (snoc8s xs a)
              have hlj : Hid ((xs ++ [a] : List ByteArray).length + (j - 1) = n) := Lib.hid (by rw [hln.out]; have := hxj.out; omega)
              replace hs3 := Lib.hid hs3
              clear hcl hd3 hown hdq hsa hxs hxj
              generalize hpn : xs.length = pn at *
              go_wp2_with (at_builtin; refine wpList_append_own _ rfl _ _ 27 rfl wo.heap.size 9 j0 _ 1 16 Try.underlying27 hj hy0 hy1 hy2 rfl (by decide) _ _ _ rfl (hown3.out.alloc _) ⟨w3.heap.size, 0, none⟩ 1 1 [.string a] rfl rfl (news8 _ _ _) (one8s _) (by unfold maxLen; omega) (by omega) (by simp; omega) ?_)
              intro v2 w5 hown5 hgr5 hnil
              clear hnil
              have hrow5 : Hid (w5.ownsRow wo.heap.size 9 1 v2 (xs ++ [a] : List ByteArray).length ((xs ++ [a] : List ByteArray).flatMap strC)) := Lib.hid (by rw [hln.out, hfl.out]; exact hown5)
              have hd5 := Lib.hid ((hd33.out.below (below_a1 w3 _) hN3).youngO hgr5 (by simp; omega) (fun q hq => (ge_own5 hown3.out hq).1))
              have hs5 : Hid (SrcAt w5 r (t + 20 + 40 * q + 2 * (xs ++ [a] : List ByteArray).length)) := Lib.hid (((hs3.out.below (below_a1 w3 _)).grownO hgr5 (fun q hq => by have := (ge_own5 hown3.out hq).1; omega)).mono (by rw [hln.out]; omega))
              have hN5 : wo.heap.size ≤ w5.heap.size := by have := hgr5.size; simp at this; omega
              clear hown5 hgr5
              go_wp2
              go_roundw
              case rel => exact ⟨xs ++ [a], j - 1, by rw [Int.natCast_sub (by omega)]; rfl, hlj.out, hrow5.out, hsx.out, hs5.out, hd5.out, hN5⟩
              case measure => simp [intOf]; omega
            · obtain rfl : j = 0 := by omega
              have hgj : decide ((0 : Int) < ((0 : Nat) : Int)) = false := rfl
              have hxn : xs.length = n := by have := hxj.out; omega
              obtain ⟨A7, c7, rfl, hO7⟩ := owns_s8 rfl hown
              have hcap7 := owns_cap hown
              have hRq := hR.out.kept (w' := wq) (fun g hg1 hg2 => hdq.out.block g hg2 (by omega))
              have hM : ∀ g, (Value.slice A5 q c5).ownBlock = some g → g < wo.heap.size := fun g hg => (ge_own5 hR.out.2.2.1 hg).2
              have hown9 := Lib.hid hRq.2.2.1
              have hstep := Lib.hid (fun g cap w5 => hRq.step (c := c7) (g := g) (cap := cap) (w5 := w5) hM hNr (below_a1 wq (.cells #[.slice A7 xs.length c7] 27)) hO7 ⟨by omega, hcap7⟩)
              have hTn2 := Lib.hid (hT.out.snoc hxs.out hxn)
              have hsq' := Lib.hid hsq
              have hdq' : Hid (Drawn r w.heap.size w wq) := Lib.hid (hdr.out.trans (hdq.out.down hNr))
              have hlnT : Hid ((T ++ [xs] : List (List ByteArray)).length = q + 1) := Lib.hid (by rw [List.length_append, hTn.out]; rfl)
              replace hxn := Lib.hid hxn
              clear hM hO7 hown hsq hdq hRq hcap7 hxs
              go_wp2_with (at_builtin; refine wpList_append_lies _ rfl _ _ 24 rfl w.heap.size 27 i0 _ 1 24 Try.underlying24 hi hz0 hz1 hz2 rfl (by decide) _ q (rs.flatMap RowD.cells) rfl (hown9.out.alloc _) ⟨wq.heap.size, 0, none⟩ 1 1 [.slice A7 xs.length c7] rfl rfl ?a3 ?b3 (by decide) ?c3 ?d3 ?e3 _ rfl ?_)
              case a3 =>
                intro j u hj
                match j, hj with
                | 0, hj => cases hj; exact cell_new (by simp [Addr.add]) rfl
                | j + 1, hj => simp at hj
              case b3 =>
                intro u hu
                simp only [List.mem_cons, List.not_mem_nil, or_false] at hu
                rcases hu with rfl; rfl
              case c3 => unfold maxLen; omega
              case d3 => omega
              case e3 => simp; omega
              intro g cap w5 ho5 hg5 hor5 hlt5
              have hR5 := Lib.hid (hstep.out g cap w5 ho5 hg5 (by simpa using hor5))
              have hd5 := Lib.hid ((hdq'.out.below (below_a1 wq _) (by omega)).youngO hg5 (by simp; omega) (fun q hq => (ge_own5 hown9.out hq).1))
              have hs5 : Hid (SrcAt w5 r (t + 20 + 40 * (T ++ [xs] : List (List ByteArray)).length)) := Lib.hid (((hsq'.out.below (below_a1 wq _)).grownO hg5 (fun q hq => by have := (ge_own5 hown9.out hq).1; omega)).mono (by rw [hlnT.out]; omega))
              have hN5 : w.heap.size ≤ w5.heap.size := by have := hg5.size; simp at this; omega
              have hlk : Hid ((T ++ [xs] : List (List ByteArray)).length + (k - 1) = M2) := Lib.hid (by rw [hlnT.out]; have := hTk.out; omega)
              clear ho5 hg5 hor5
              go_wp2
              go_roundw
              case rel => exact ⟨k - 1, rs ++ [⟨A7, xs.length, c7⟩], T ++ [xs], by rw [Int.natCast_sub (by omega)]; rfl, hlk.out, by rw [hlnT.out]; exact hR5.out, hTn2.out, hs5.out, hd5.out, hN5⟩
              case measure => simp [intOf]; omega
        · obtain rfl : k = 0 := by omega
          have hg : decide ((0 : Int) < ((0 : Nat) : Int)) = false := rfl
          have hTM : T.length = M2 := by omega
          rw [hTM] at hR hsr
          have hTs := Lib.hid (hT.out.short (by omega))
          replace hTM := Lib.hid hTM
          replace hsr := hsr.mono (show t + 20 + 40 * M2 ≤ t + 2000 by omega)
          clear hTk hTl
          by_cases hpos : 0 < M2
          · have hgt : decide ((0 : Int) < (M2 : Int)) = true := decide_eq_true (by omega)
            have hp8 := Lib.hid (pick_any _ _ (M2 : Int) wo hsr (by omega) (by omega))
            clear hsr
            go_wp2_with fail
            refine hp8.out.mono ?_
            rintro e wa8 ⟨px, rfl, px0, px1, px2, hs8, hg8⟩
            have hd8 := Lib.hid (hdr.out.pick hg8 (by omega))
            have hsz8 := hd8.out.size
            have hzz8 := hg8.size
            have hR8 := Lib.hid (hR.out.kept (fun g h1 h2 => hg8.block g h2 (fun e => by have e2 := Option.some.inj e; omega)))
            clear hg8 hp8 hdr hR
            obtain ⟨p, hpM, rfl⟩ : ∃ p : Nat, p < M2 ∧ px = (p : Int) := ⟨px.toNat, by omega, by omega⟩
            clear px0 px1 px2
            obtain ⟨g, c, q1, xs, rfl, hgb, hgl, hgf, hgc, hq1, hx1, hO1, hq1n, hq1c, hq1g⟩ := hR8.out.at8 hpM
            have hTx := hT.out xs (List.mem_of_getElem? hx1)
            have hxn : q1.n = n := by rw [← hO1.1]; exact hTx.2
            have hp0 : (0 : Int) ≤ (p : Int) := Int.natCast_nonneg _
            have hp1 : (p : Int) < (M2 : Int) := by omega
            replace hO1 := Lib.hid hO1
            replace hq1g := Lib.hid hq1g
            obtain ⟨B, nq, cq⟩ := q1
            dsimp only at hxn hgc hO1 hq1c hq1g
            obtain rfl : n = nq := hxn.symm
            replace hTx := Lib.hid hTx
            clear hq1 hx1 hq1n
            obtain ⟨gb, rfl⟩ : ∃ gb, B = some ⟨gb, 0, none⟩ := by
              rcases hO1.out with ⟨_, ⟨_, h0⟩ | ⟨g, m, f, h1, _⟩⟩
              · omega
              · exact ⟨g, h1⟩
            have hpp := Lib.hid (pick_any _ _ 16 wa8 hs8 (by omega) (by omega))
            clear hs8
            go_wp2_with fail
            refine hpp.out.mono ?_
            rintro e wx8 ⟨x, rfl, x0, _, _, hsx8, hgx8⟩
            have hzx8 := hgx8.size
            have hdx8 := Lib.hid (hd8.out.pick hgx8 (by omega))
            have hblkx8 := Lib.hid hgx8.block
            have hRx8 := Lib.hid (hR8.out.kept (fun g h1 h2 => hgx8.block g h2 (fun e => by have e2 := Option.some.inj e; omega)))
            have hO8 := Lib.hid (hO1.out.block (fun p hp => hgx8.block _ (hO1.out.lt p hp) (fun e => by have := hO1.out.own p hp; have e2 := Option.some.inj e; omega)))
            replace hsx8 := hsx8.mono (show t + 2000 + 2 + 2 ≤ t + 3000 by omega)
            clear hpp hgx8 hd8 hR8 hO1 hgc hgf hblkx8
            by_cases hx0 : x = 0
            · have g0 : (x == 0) = true := beq_iff_eq.2 hx0
              replace hx0 := Lib.hid hx0
              have hbx9 := below_a1 wx8 (.cells #[.string ⟨#[127]⟩, .string ⟨#[49, 50, 51, 52, 53, 54, 55, 56, 57, 48, 49, 50, 51, 52, 53, 54, 55, 56, 57, 48, 49, 50, 51, 52, 53, 54, 55, 56, 57, 48]⟩, .string ⟨#[49, 50, 51, 52, 53, 54, 55, 56, 57, 48, 49, 50, 51, 52, 53, 54, 55, 56, 57, 48, 49, 50, 51, 52, 53, 54, 55, 56, 57, 48, 49]⟩] 9)
              have hlx9 : Strs (wx8.alloc (.cells #[.string ⟨#[127]⟩, .string ⟨#[49, 50, 51, 52, 53, 54, 55, 56, 57, 48, 49, 50, 51, 52, 53, 54, 55, 56, 57, 48, 49, 50, 51, 52, 53, 54, 55, 56, 57, 48]⟩, .string ⟨#[49, 50, 51, 52, 53, 54, 55, 56, 57, 48, 49, 50, 51, 52, 53, 54, 55, 56, 57, 48, 49, 50, 51, 52, 53, 54, 55, 56, 57, 48, 49]⟩] 9)) (some ⟨wx8.heap.size, 0, none⟩) 3 [⟨#[127]⟩, ⟨#[49, 50, 51, 52, 53, 54, 55, 56, 57, 48, 49, 50, 51, 52, 53, 54, 55, 56, 57, 48, 49, 50, 51, 52, 53, 54, 55, 56, 57, 48]⟩, ⟨#[49, 50, 51, 52, 53, 54, 55, 56, 57, 48, 49, 50, 51, 52, 53, 54, 55, 56, 57, 48, 49, 50, 51, 52, 53, 54, 55, 56, 57, 48, 49]⟩] := slit8 wx8 9 [⟨#[127]⟩, ⟨#[49, 50, 51, 52, 53, 54, 55, 56, 57, 48, 49, 50, 51, 52, 53, 54, 55, 56, 57, 48, 49, 50, 51, 52, 53, 54, 55, 56, 57, 48]⟩, ⟨#[49, 50, 51, 52, 53, 54, 55, 56, 57, 48, 49, 50, 51, 52, 53, 54, 55, 56, 57, 48, 49, 50, 51, 52, 53, 54, 55, 56, 57, 48, 49]⟩] 3 rfl
              have hsx9 := hsx8.below hbx9
              have hdx9 := Lib.hid (hdx8.out.below hbx9 (by omega))
              have hRx9 := Lib.hid (hRx8.out.kept (fun g h1 h2 => hbx9.block g h2))
              have hO9 := Lib.hid (hO8.out.below hbx9)
              have hzx9 := hbx9.size
              have hne9 : ∀ p : Addr, (some ⟨wx8.heap.size, 0, none⟩ : Option Addr) = some p → p.block ≠ r := fun p hp => by cases hp; simp only; omega
              have hsl9 := Lib.hid (shortAll.out (show shortAll [⟨#[127]⟩, ⟨#[49, 50, 51, 52, 53, 54, 55, 56, 57, 48, 49, 50, 51, 52, 53, 54, 55, 56, 57, 48, 49, 50, 51, 52, 53, 54, 55, 56, 57, 48]⟩, ⟨#[49, 50, 51, 52, 53, 54, 55, 56, 57, 48, 49, 50, 51, 52, 53, 54, 55, 56, 57, 48, 49, 50, 51, 52, 53, 54, 55, 56, 57, 48, 49]⟩] = true by decide))
              have hpx9 := Lib.hid (text_any r _ _ 3 3 _ _ hsx9 (by omega) hlx9 (by omega) (by omega) hne9)
              clear hbx9 hlx9 hsx9 hne9 hsx8 hdx8 hRx8 hO8
              have hn0 : 0 < n := by omega
              have hn0' : (0 : Int) < (n : Int) := by omega
              go_wp2_with fail
              refine hpx9.out.mono ?_
              rintro e wt ⟨z, zm, rfl, hst, hgt9⟩
              have hzt := hgt9.size
              have hdt := hdx9.out.pick hgt9 (by omega)
              have hRt := hRx9.out.kept (fun g h1 h2 => hgt9.block g h2 (fun e => by have e2 := Option.some.inj e; omega))
              have hOt : OStrs wt w.heap.size (some ⟨gb, 0, none⟩) n xs := hO9.out.block (fun p hp => hgt9.block _ (hO9.out.lt p hp) (fun e => by have := hO9.out.own p hp; have e2 := Option.some.inj e; omega))
              have hzs := hsl9.out z zm
              obtain ⟨y, p0, p1, p2, p3⟩ := hOt.parts8 hn0
              obtain ⟨A', c', e', hY⟩ := hRt.yss (r := r) (by omega)
              cases e'
              obtain ⟨T', hY', hT'⟩ := hY.stored (g := gb) (o := 0) (fun p hp => by cases hp; exact fun e => hq1g.out _ rfl e.symm) z hzs hTs.out
              have hgg : wt.grownBy (wt.setCell ⟨gb, 0, none⟩ (.string z)) (some gb) := grown_set
              have hdf := Lib.hid (hdt.young hgg (by omega) (by omega))
              have hsf := Lib.hid ((hst.grown hgg (by omega)).mono (show t + 3000 + 2 ≤ t + 4000 by omega))
              replace hY' := Lib.hid hY'
              replace hT' := Lib.hid hT'
              clear hpx9 hsl9 hgt9 hdx9 hRx9 hO9 hdt hRt hOt hst hgg hY zm hzs
              go_wp2
              go_ret
              exact ⟨_, M2, _, T', rfl, by omega, hY'.out, hT'.out, hsf.out, hdf.out⟩
            · have g0 : (x == 0) = false := beq_eq_false_iff_ne.2 hx0
              replace hx0 := Lib.hid hx0
              by_cases hx1 : x = 1
              · have g1 : (x == 1) = true := beq_iff_eq.2 hx1
                replace hx1 := Lib.hid hx1
                obtain ⟨g', c', q2, ys, e', hgb2, hgl2, hgf2, hgc2, hq2, hx2, hO2, hq2n, hq2c, hq2g⟩ := hRx8.out.at8 hpos
                cases e'
                have hTy := hT.out ys (List.mem_of_getElem? hx2)
                have hyn : q2.n = n := by rw [← hO2.1]; exact hTy.2
                obtain ⟨B2, nr, c2⟩ := q2
                dsimp only at hyn hgc2 hO2 hq2c hq2g hq2n
                obtain rfl : n = nr := hyn.symm
                have hn1 : 1 ≤ n := by omega
                have hn1' : (1 : Int) ≤ (n : Int) := by omega
                have hnc : (n : Int) ≤ (c2 : Int) := by omega
                have hM0 : (0 : Int) < (M2 : Int) := by omega
                replace hO2 := Lib.hid hO2
                replace hq2g := Lib.hid hq2g
                replace hTy := Lib.hid hTy
                have hpt := Lib.hid (part8s hO2.out.srow 1 n c2 hn1 (Nat.le_refl _) (fun h => by omega))
                have hyl := Lib.hid hO2.out.1
                have hty : Hid (ys.take n = ys) := Lib.hid (List.take_of_length_le (by rw [hyl.out]; exact Nat.le_refl _))
                have hT' := Lib.hid (hTs.out.put (ys := ys.drop 1) ⟨fun x hx => hTy.out.1 x (List.mem_of_mem_drop hx), by rw [List.length_drop, hTy.out.2]; omega⟩)
                by_cases hc1 : c2 = 1
                · subst hc1
                  have hn1e : Hid (n = 1) := Lib.hid (by omega)
                  have hI3 : Strs wx8 B2 0 (ys.drop 1) := by
                    have := hpt.out
                    rw [hty.out, hn1e.out] at this
                    simpa using this
                  have hqb : ∀ p, (B2) = some p → p.block ≠ r ∧ p.block < wx8.heap.size ∧ p.block ≠ g := fun p hp => by
                    obtain ⟨b, hb, hbp⟩ : ∃ b, B2 = some b ∧ p.block = b.block := by
                      exact ⟨p, hp, rfl⟩
                    have h1 := hO2.out.own b hb
                    have h2 := hO2.out.lt b hb
                    have h3 := hq2g.out b hb
                    rw [hbp]
                    exact ⟨by omega, h2, h3⟩
                  have hY := Lib.hid (YSS.put8 hRx8.out hrl hpos ⟨B2, 0, 0⟩ (ys.drop 1) hI3 (by dsimp only; omega) hqb)
                  have hgg : wx8.grownBy (wx8.setCell ⟨g, 0, none⟩ (.slice B2 0 0)) (some g) := grown_set
                  have hdf := Lib.hid (hdx8.out.young hgg (by omega) hgb)
                  have hsf := Lib.hid ((hsx8.grown hgg (by omega)).mono (show t + 3000 ≤ t + 4000 by omega))
                  clear hI3 hqb hgg hdx8 hsx8 hRx8 hO8 hO2 hTy hq2 hx2 hq2g hpt hyl hty
                  go_wp2
                  go_ret
                  exact ⟨_, M2, _, _, rfl, by omega, hY.out, hT'.out, hsf.out, hdf.out⟩
                · have hcz : 1 ≤ c2 - 1 := by omega
                  have hI3 : Strs wx8 (B2.map (fun (x : Addr) => (⟨x.block, x.off + 1, none⟩ : Addr))) (n - 1) (ys.drop 1) := by
                    have := hpt.out
                    rw [hty.out] at this
                    simpa [Addr.add, hc1] using this
                  have hqb : ∀ p, (B2.map (fun (x : Addr) => (⟨x.block, x.off + 1, none⟩ : Addr))) = some p → p.block ≠ r ∧ p.block < wx8.heap.size ∧ p.block ≠ g := fun p hp => by
                    obtain ⟨b, hb, hbp⟩ : ∃ b, B2 = some b ∧ p.block = b.block := by
                      cases B2 with
                      | none => simp at hp
                      | some b =>
                        simp only [Option.map_some, Option.some.injEq] at hp
                        subst hp
                        exact ⟨b, rfl, rfl⟩
                    have h1 := hO2.out.own b hb
                    have h2 := hO2.out.lt b hb
                    have h3 := hq2g.out b hb
                    rw [hbp]
                    exact ⟨by omega, h2, h3⟩
                  have hY := Lib.hid (YSS.put8 hRx8.out hrl hpos ⟨B2.map (fun (x : Addr) => (⟨x.block, x.off + 1, none⟩ : Addr)), n - 1, c2 - 1⟩ (ys.drop 1) hI3 (by dsimp only; omega) hqb)
                  have hgg : wx8.grownBy (wx8.setCell ⟨g, 0, none⟩ (.slice (B2.map (fun (x : Addr) => (⟨x.block, x.off + 1, none⟩ : Addr))) (n - 1) (c2 - 1))) (some g) := grown_set
                  have hdf := Lib.hid (hdx8.out.young hgg (by omega) hgb)
                  have hsf := Lib.hid ((hsx8.grown hgg (by omega)).mono (show t + 3000 ≤ t + 4000 by omega))
                  clear hI3 hqb hgg hdx8 hsx8 hRx8 hO8 hO2 hTy hq2 hx2 hq2g hpt hyl hty
                  go_wp2
                  go_ret
                  exact ⟨_, M2, _, _, rfl, by omega, hY.out, hT'.out, hsf.out, hdf.out⟩
              · have g1 : (x == 1) = false := beq_eq_false_iff_ne.2 hx1
                replace hx1 := Lib.hid hx1
                obtain ⟨A', c', e', hY⟩ := hRx8.out.yss (r := r) (by omega)
                cases e'
                replace hY := Lib.hid hY
                have hsf := Lib.hid (hsx8.mono (show t + 3000 ≤ t + 4000 by omega))
                clear hsx8 hRx8 hO8
                go_wp2
                go_ret
                exact ⟨_, M2, _, T, rfl, by omega, hY.out, hTs.out, hsf.out, hdx8.out⟩
          · have hgt : decide ((0 : Int) < (M2 : Int)) = false := decide_eq_false (by omega)
            obtain ⟨A', c', rfl, hY⟩ := hR.out.yss (r := r) (by omega)
            replace hY := Lib.hid hY
            have hsf := Lib.hid (hsr.mono (show t + 2000 ≤ t + 4000 by omega))
            clear hsr hR
            go_wp2
            go_ret
            exact ⟨_, M2, _, T, rfl, by omega, hY.out, hTs.out, hsf.out, hdr.out⟩
  | true =>
    have hp9 := Lib.hid (pick_any _ _ 2 wa2 hs2 (by omega) (by omega))
    clear hs2
    go_wp2_with fail
    refine hp9.out.mono ?_
    rintro e wa9 ⟨u, rfl, u0, u1, u2, hs9, hg9⟩
    have hd9 := Lib.hid (hd2.out.pick hg9 (by omega))
    have hsz9 := hd9.out.size
    have hzz9 := hg9.size
    have hR9 := Lib.hid (hR2.out.kept (fun g h1 h2 => hg9.block g h2 (fun e => by have e2 := Option.some.inj e; omega)))
    clear hg9 hp9 hd2 hR2
    have u1 := u1 (by omega)
    obtain ⟨n2, n2e⟩ : ∃ n2 : Nat, (n2 : Int) = 12 + u := ⟨(12 + u).toNat, by omega⟩
    have n2w : IntKind.i64.wrap (12 + u) = (n2 : Int) := by rw [IntWalk.i64_in _ (by omega), n2e]
    have n2l : 12 ≤ n2 ∧ n2 ≤ 13 := by omega
    clear n2e u0 u1 u2
    have hp10 := Lib.hid (pick_any _ _ 4 wa9 hs9 (by omega) (by omega))
    clear hs9
    go_wp2_with fail
    refine hp10.out.mono ?_
    rintro e wa10 ⟨y, rfl, y0, y1, y2, hs10, hg10⟩
    have hd10 := Lib.hid (hd9.out.pick hg10 (by omega))
    have hsz10 := hd10.out.size
    have hzz10 := hg10.size
    have hR10 := Lib.hid (hR9.out.kept (fun g h1 h2 => hg10.block g h2 (fun e => by have e2 := Option.some.inj e; omega)))
    clear hg10 hp10 hd9 hR9
    have y1 := y1 (by omega)
    obtain ⟨M, Me⟩ : ∃ M : Nat, (M : Int) = 1 + y := ⟨(1 + y).toNat, by omega⟩
    have Mw : IntKind.i64.wrap (1 + y) = (M : Int) := by rw [IntWalk.i64_in _ (by omega), Me]
    have Ml : 1 ≤ M ∧ M ≤ 4 := by omega
    clear Me y0 y1 y2
    have hp11 := Lib.hid (one_any _ _ 20 wa10 hs10 (by omega) (by omega))
    clear hs10
    go_wp2_with fail
    refine hp11.out.mono ?_
    rintro e wa11 ⟨d, rfl, hs11, hg11⟩
    have hd11 := Lib.hid (hd10.out.pick hg11 (by omega))
    have hsz11 := hd11.out.size
    have hzz11 := hg11.size
    have hR11 := Lib.hid (hR10.out.kept (fun g h1 h2 => hg11.block g h2 (fun e => by have e2 := Option.some.inj e; omega)))
    clear hg11 hp11 hd10 hR10
    cases d with
    | false =>
      go_wp2
      go_loopw [3, 6] (fun v kv wr => ∃ (k : Nat) (rs : List RowD) (T : List (List ByteArray)), kv = .int .i64 (k : Int) ∧ T.length + k = M ∧ SInv w.heap.size T.length v rs T wr ∧ fullT n2 T ∧ SrcAt wr r (t + 20 + 40 * T.length) ∧ Drawn r w.heap.size w wr ∧ w.heap.size ≤ wr.heap.size) (fun _ kv _ => (intOf kv).toNat)
      case atStart => exact ⟨M, [], [], rfl, by simp, hR11.out, (fun x hx => by cases hx), hs11.mono (by simp), hd11.out, by omega⟩
      case round =>
        obtain ⟨k, rs, T, rfl, hTk, hR, hT, hsr, hdr, hNr⟩ := hrel
        rename World => wo
        have hTl : T.length ≤ 41 := by omega
        have hrlo : r < wo.heap.size := hsr.lt
        replace hR := Lib.hid hR
        replace hT := Lib.hid hT
        replace hdr := Lib.hid hdr
        by_cases hk : 0 < k
        · have hg : decide ((0 : Int) < (k : Int)) = true := decide_eq_true (by omega)
          obtain ⟨A5, c5, hv5, _⟩ := hR.out.yss (r := r) (by omega)
          subst hv5
          have hk41 : k ≤ 41 := by omega
          replace hTk := Lib.hid hTk
          generalize hTn : T.length = q at *
          replace hTn := Lib.hid hTn
          have hb1 := below_a1 wo (.cells #[] 9)
          have hs1 := Lib.hid (hsr.below hb1)
          have hd1 := Lib.hid ((Drawn.refl r wo.heap.size wo).below hb1 (Nat.le_refl _))
          have hN1 := Lib.hid hb1.size
          have ho1 := Lib.hid (empty_owns wo 9 wo.heap.size (Nat.le_refl _))
          clear hb1 hsr
          go_wp2
          go_loopw [7, 8] (fun v jv wq => ∃ (xs : List ByteArray) (j : Nat), jv = .int .i64 (j : Int) ∧ xs.length + j = n2 ∧ wq.ownsRow wo.heap.size 9 1 v xs.length (xs.flatMap strC) ∧ shortL xs ∧ SrcAt wq r (t + 20 + 40 * q + 2 * xs.length) ∧ Drawn r wo.heap.size wo wq ∧ wo.heap.size ≤ wq.heap.size) (fun _ jv _ => (intOf jv).toNat)
          case atStart => exact ⟨[], n2, rfl, by simp, ho1.out, (fun x hx => by cases hx), hs1.out.mono (by simp), hd1.out, hN1.out⟩
          case round =>
            obtain ⟨xs, j, rfl, hxj, hown, hxs, hsq, hdq, hNq⟩ := hrel
            rename World => wq
            have hxl : xs.length ≤ 13 := by omega
            replace hxs := Lib.hid hxs
            replace hdq := Lib.hid hdq
            have hj13 : j ≤ 13 := by omega
            replace hxj := Lib.hid hxj
            by_cases hj0 : 0 < j
            · have hgj : decide ((0 : Int) < (j : Int)) = true := decide_eq_true (by omega)
              obtain ⟨A7, c7, rfl⟩ := owns_slice hown
              have hcl := Lib.hid (l08cell_any r _ wq hsq (by omega))
              replace hown := Lib.hid hown
              clear hsq
              go_wp2_with fail
              refine hcl.out.mono ?_
              rintro e w3 ⟨a, rfl, hsa, hs3, hd3⟩
              have hown3 := Lib.hid (owns_block hown.out (fun g hg => hd3.block g (ge_own5 hown.out hg).2 (by have := (ge_own5 hown.out hg).1; omega)))
              have hd33 := Lib.hid (hdq.out.trans (hd3.down (by omega)))
              have hN3 := Nat.le_trans hNq hd3.size
              have hsx := Lib.hid (hxs.out.snoc hsa)
              have hln : Hid ((xs ++ [a] : List ByteArray).length = xs.length + 1) := Lib.hid (by simp)
              have hfl := Lib.hid (snoc8s xs a)
              have hlj : Hid ((xs ++ [a] : List ByteArray).length + (j - 1) = n2) := Lib.hid (by rw [hln.out]; have := hxj.out; omega)
              replace hs3 := Lib.hid hs3
              clear hcl hd3 hown hdq hsa hxs hxj
              generalize hpn : xs.length = pn at *
              go_wp2_with (at_builtin; refine wpList_append_own _ rfl _ _ 27 rfl wo.heap.size 9 j0 _ 1 16 Try.underlying27 hj hy0 hy1 hy2 rfl (by decide) _ _ _ rfl (hown3.out.alloc _) ⟨w3.heap.size, 0, none⟩ 1 1 [.string a] rfl rfl (news8 _ _ _) (one8s _) (by unfold maxLen; omega) (by omega) (by simp; omega) ?_)
              intro v2 w5 hown5 hgr5 hnil
              clear hnil
              have hrow5 : Hid (w5.ownsRow wo.heap.size 9 1 v2 (xs ++ [a] : List ByteArray).length ((xs ++ [a] : List ByteArray).flatMap strC)) := Lib.hid (by rw [hln.out, hfl.out]; exact hown5)
              have hd5 := Lib.hid ((hd33.out.below (below_a1 w3 _) hN3).youngO hgr5 (by simp; omega) (fun q hq => (ge_own5 hown3.out hq).1))
              have hs5 : Hid (SrcAt w5 r (t + 20 + 40 * q + 2 * (xs ++ [a] : List ByteArray).length)) := Lib.hid (((hs3.out.below (below_a1 w3 _)).grownO hgr5 (fun q hq => by have := (ge_own5 hown3.out hq).1; omega)).mono (by rw [hln.out]; omega))
              have hN5 : wo.heap.size ≤ w5.heap.size := by have := hgr5.size; simp at this; omega
              clear hown5 hgr5
              go_wp2
              go_roundw
              case rel => exact ⟨xs ++ [a], j - 1, by rw [Int.natCast_sub (by omega)]; rfl, hlj.out, hrow5.out, hsx.out, hs5.out, hd5.out, hN5⟩
              case measure => simp [intOf]; omega
            · obtain rfl : j = 0 := by omega
              have hgj : decide ((0 : Int) < ((0 : Nat) : Int)) = false := rfl
              have hxn : xs.length = n2 := by have := hxj.out; omega
              obtain ⟨A7, c7, rfl, hO7⟩ := owns_s8 rfl hown
              have hcap7 := owns_cap hown
              have hRq := hR.out.kept (w' := wq) (fun g hg1 hg2 => hdq.out.block g hg2 (by omega))
              have hM : ∀ g, (Value.slice A5 q c5).ownBlock = some g → g < wo.heap.size := fun g hg => (ge_own5 hR.out.2.2.1 hg).2
              have hown9 := Lib.hid hRq.2.2.1
              have hstep := Lib.hid (fun g cap w5 => hRq.step (c := c7) (g := g) (cap := cap) (w5 := w5) hM hNr (below_a1 wq (.cells #[.slice A7 xs.length c7] 27)) hO7 ⟨by omega, hcap7⟩)
              have hTn2 := Lib.hid (hT.out.snoc hxs.out hxn)
              have hsq' := Lib.hid hsq
              have hdq' : Hid (Drawn r w.heap.size w wq) := Lib.hid (hdr.out.trans (hdq.out.down hNr))
              have hlnT : Hid ((T ++ [xs] : List (List ByteArray)).length = q + 1) := Lib.hid (by rw [List.length_append, hTn.out]; rfl)
              replace hxn := Lib.hid hxn
              clear hM hO7 hown hsq hdq hRq hcap7 hxs
              go_wp2_with (at_builtin; refine wpList_append_lies _ rfl _ _ 24 rfl w.heap.size 27 i0 _ 1 24 Try.underlying24 hi hz0 hz1 hz2 rfl (by decide) _ q (rs.flatMap RowD.cells) rfl (hown9.out.alloc _) ⟨wq.heap.size, 0, none⟩ 1 1 [.slice A7 xs.length c7] rfl rfl ?a3 ?b3 (by decide) ?c3 ?d3 ?e3 _ rfl ?_)
              case a3 =>
                intro j u hj
                match j, hj with
                | 0, hj => cases hj; exact cell_new (by simp [Addr.add]) rfl
                | j + 1, hj => simp at hj
              case b3 =>
                intro u hu
                simp only [List.mem_cons, List.not_mem_nil, or_false] at hu
                rcases hu with rfl; rfl
              case c3 => unfold maxLen; omega
              case d3 => omega
              case e3 => simp; omega
              intro g cap w5 ho5 hg5 hor5 hlt5
              have hR5 := Lib.hid (hstep.out g cap w5 ho5 hg5 (by simpa using hor5))
              have hd5 := Lib.hid ((hdq'.out.below (below_a1 wq _) (by omega)).youngO hg5 (by simp; omega) (fun q hq => (ge_own5 hown9.out hq).1))
              have hs5 : Hid (SrcAt w5 r (t + 20 + 40 * (T ++ [xs] : List (List ByteArray)).length)) := Lib.hid (((hsq'.out.below (below_a1 wq _)).grownO hg5 (fun q hq => by have := (ge_own5 hown9.out hq).1; omega)).mono (by rw [hlnT.out]; omega))
              have hN5 : w.heap.size ≤ w5.heap.size := by have := hg5.size; simp at this; omega
              have hlk : Hid ((T ++ [xs] : List (List ByteArray)).length + (k - 1) = M) := Lib.hid (by rw [hlnT.out]; have := hTk.out; omega)
              clear ho5 hg5 hor5
              go_wp2
              go_roundw
              case rel => exact ⟨k - 1, rs ++ [⟨A7, xs.length, c7⟩], T ++ [xs], by rw [Int.natCast_sub (by omega)]; rfl, hlk.out, by rw [hlnT.out]; exact hR5.out, hTn2.out, hs5.out, hd5.out, hN5⟩
              case measure => simp [intOf]; omega
        · obtain rfl : k = 0 := by omega
          have hg : decide ((0 : Int) < ((0 : Nat) : Int)) = false := rfl
          have hTM : T.length = M := by omega
          rw [hTM] at hR hsr
          have hTs := Lib.hid (hT.out.short (by omega))
          replace hTM := Lib.hid hTM
          replace hsr := hsr.mono (show t + 20 + 40 * M ≤ t + 2000 by omega)
          clear hTk hTl
          by_cases hpos : 0 < M
          · have hgt : decide ((0 : Int) < (M : Int)) = true := decide_eq_true (by omega)
            have hp12 := Lib.hid (pick_any _ _ (M : Int) wo hsr (by omega) (by omega))
            clear hsr
            go_wp2_with fail
            refine hp12.out.mono ?_
            rintro e wa12 ⟨px, rfl, px0, px1, px2, hs12, hg12⟩
            have hd12 := Lib.hid (hdr.out.pick hg12 (by omega))
            have hsz12 := hd12.out.size
            have hzz12 := hg12.size
            have hR12 := Lib.hid (hR.out.kept (fun g h1 h2 => hg12.block g h2 (fun e => by have e2 := Option.some.inj e; omega)))
            clear hg12 hp12 hdr hR
            obtain ⟨p, hpM, rfl⟩ : ∃ p : Nat, p < M ∧ px = (p : Int) := ⟨px.toNat, by omega, by omega⟩
            clear px0 px1 px2
            obtain ⟨g, c, q1, xs, rfl, hgb, hgl, hgf, hgc, hq1, hx1, hO1, hq1n, hq1c, hq1g⟩ := hR12.out.at8 hpM
            have hTx := hT.out xs (List.mem_of_getElem? hx1)
            have hxn : q1.n = n2 := by rw [← hO1.1]; exact hTx.2
            have hp0 : (0 : Int) ≤ (p : Int) := Int.natCast_nonneg _
            have hp1 : (p : Int) < (M : Int) := by omega
            replace hO1 := Lib.hid hO1
            replace hq1g := Lib.hid hq1g
            obtain ⟨B, nq, cq⟩ := q1
            dsimp only at hxn hgc hO1 hq1c hq1g
            obtain rfl : n2 = nq := hxn.symm
            replace hTx := Lib.hid hTx
            clear hq1 hx1 hq1n
            obtain ⟨gb, rfl⟩ : ∃ gb, B = some ⟨gb, 0, none⟩ := by
              rcases hO1.out with ⟨_, ⟨_, h0⟩ | ⟨g, m, f, h1, _⟩⟩
              · omega
              · exact ⟨g, h1⟩
            have hpp := Lib.hid (pick_any _ _ 16 wa12 hs12 (by omega) (by omega))
            clear hs12
            go_wp2_with fail
            refine hpp.out.mono ?_
            rintro e wx8 ⟨x, rfl, x0, _, _, hsx8, hgx8⟩
            have hzx8 := hgx8.size
            have hdx8 := Lib.hid (hd12.out.pick hgx8 (by omega))
            have hblkx8 := Lib.hid hgx8.block
            have hRx8 := Lib.hid (hR12.out.kept (fun g h1 h2 => hgx8.block g h2 (fun e => by have e2 := Option.some.inj e; omega)))
            have hO8 := Lib.hid (hO1.out.block (fun p hp => hgx8.block _ (hO1.out.lt p hp) (fun e => by have := hO1.out.own p hp; have e2 := Option.some.inj e; omega)))
            replace hsx8 := hsx8.mono (show t + 2000 + 2 + 2 ≤ t + 3000 by omega)
            clear hpp hgx8 hd12 hR12 hO1 hgc hgf hblkx8
            by_cases hx0 : x = 0
            · have g0 : (x == 0) = true := beq_iff_eq.2 hx0
              replace hx0 := Lib.hid hx0
              have hbx9 := below_a1 wx8 (.cells #[.string ⟨#[127]⟩, .string ⟨#[49, 50, 51, 52, 53, 54, 55, 56, 57, 48, 49, 50, 51, 52, 53, 54, 55, 56, 57, 48, 49, 50, 51, 52, 53, 54, 55, 56, 57, 48]⟩, .string ⟨#[49, 50, 51, 52, 53, 54, 55, 56, 57, 48, 49, 50, 51, 52, 53, 54, 55, 56, 57, 48, 49, 50, 51, 52, 53, 54, 55, 56, 57, 48, 49]⟩] 9)
              have hlx9 : Strs (wx8.alloc (.cells #[.string ⟨#[127]⟩, .string ⟨#[49, 50, 51, 52, 53, 54, 55, 56, 57, 48, 49, 50, 51, 52, 53, 54, 55, 56, 57, 48, 49, 50, 51, 52, 53, 54, 55, 56, 57, 48]⟩, .string ⟨#[49, 50, 51, 52, 53, 54, 55, 56, 57, 48, 49, 50, 51, 52, 53, 54, 55, 56, 57, 48, 49, 50, 51, 52, 53, 54, 55, 56, 57, 48, 49]⟩] 9)) (some ⟨wx8.heap.size, 0, none⟩) 3 [⟨#[127]⟩, ⟨#[49, 50, 51, 52, 53, 54, 55, 56, 57, 48, 49, 50, 51, 52, 53, 54, 55, 56, 57, 48, 49, 50, 51, 52, 53, 54, 55, 56, 57, 48]⟩, ⟨#[49, 50, 51, 52, 53, 54, 55, 56, 57, 48, 49, 50, 51, 52, 53, 54, 55, 56, 57, 48, 49, 50, 51, 52, 53, 54, 55, 56, 57, 48, 49]⟩] := slit8 wx8 9 [⟨#[127]⟩, ⟨#[49, 50, 51, 52, 53, 54, 55, 56, 57, 48, 49, 50, 51, 52, 53, 54, 55, 56, 57, 48, 49, 50, 51, 52, 53, 54, 55, 56, 57, 48]⟩, ⟨#[49, 50, 51, 52, 53, 54, 55, 56, 57, 48, 49, 50, 51, 52, 53, 54, 55, 56, 57, 48, 49, 50, 51, 52, 53, 54, 55, 56, 57, 48, 49]⟩] 3 rfl
              have hsx9 := hsx8.below hbx9
              have hdx9 := Lib.hid (hdx8.out.below hbx9 (by omega))
              have hRx9 := Lib.hid (hRx8.out.kept (fun g h1 h2 => hbx9.block g h2))
              have hO9 := Lib.hid (hO8.out.below hbx9)
              have hzx9 := hbx9.size
              have hne9 : ∀ p : Addr, (some ⟨wx8.heap.size, 0, none⟩ : Option Addr) = some p → p.block ≠ r := fun p hp => by cases hp; simp only; omega
              have hsl9 := Lib.hid (shortAll.out (show shortAll [⟨#[127]⟩, ⟨#[49, 50, 51, 52, 53, 54, 55, 56, 57, 48, 49, 50, 51, 52, 53, 54, 55, 56, 57, 48, 49, 50, 51, 52, 53, 54, 55, 56, 57, 48]⟩, ⟨#[49, 50, 51, 52, 53, 54, 55, 56, 57, 48, 49, 50, 51, 52, 53, 54, 55, 56, 57, 48, 49, 50, 51, 52, 53, 54, 55, 56, 57, 48, 49]⟩] = true by decide))
              have hpx9 := Lib.hid (text_any r _ _ 3 3 _ _ hsx9 (by omega) hlx9 (by omega) (by omega) hne9)
              clear hbx9 hlx9 hsx9 hne9 hsx8 hdx8 hRx8 hO8
              have hn0 : 0 < n2 := by omega
              have hn0' : (0 : Int) < (n2 : Int) := by omega
              go_wp2_with fail
              refine hpx9.out.mono ?_
              rintro e wt ⟨z, zm, rfl, hst, hgt9⟩
              have hzt := hgt9.size
              have hdt := hdx9.out.pick hgt9 (by omega)
              have hRt := hRx9.out.kept (fun g h1 h2 => hgt9.block g h2 (fun e => by have e2 := Option.some.inj e; omega))
              have hOt : OStrs wt w.heap.size (some ⟨gb, 0, none⟩) n2 xs := hO9.out.block (fun p hp => hgt9.block _ (hO9.out.lt p hp) (fun e => by have := hO9.out.own p hp; have e2 := Option.some.inj e; omega))
              have hzs := hsl9.out z zm
              obtain ⟨y, p0, p1, p2, p3⟩ := hOt.parts8 hn0
              obtain ⟨A', c', e', hY⟩ := hRt.yss (r := r) (by omega)
              cases e'
              obtain ⟨T', hY', hT'⟩ := hY.stored (g := gb) (o := 0) (fun p hp => by cases hp; exact fun e => hq1g.out _ rfl e.symm) z hzs hTs.out
              have hgg : wt.grownBy (wt.setCell ⟨gb, 0, none⟩ (.string z)) (some gb) := grown_set
              have hdf := Lib.hid (hdt.young hgg (by omega) (by omega))
              have hsf := Lib.hid ((hst.grown hgg (by omega)).mono (show t + 3000 + 2 ≤ t + 4000 by omega))
              replace hY' := Lib.hid hY'
              replace hT' := Lib.hid hT'
              clear hpx9 hsl9 hgt9 hdx9 hRx9 hO9 hdt hRt hOt hst hgg hY zm hzs
              go_wp2
              go_ret
              exact ⟨_, M, _, T', rfl, by omega, hY'.out, hT'.out, hsf.out, hdf.out⟩
            · have g0 : (x == 0) = false := beq_eq_false_iff_ne.2 hx0
              replace hx0 := Lib.hid hx0
              by_cases hx1 : x = 1
              · have g1 : (x == 1) = true := beq_iff_eq.2 hx1
                replace hx1 := Lib.hid hx1
                obtain ⟨g', c', q2, ys, e', hgb2, hgl2, hgf2, hgc2, hq2, hx2, hO2, hq2n, hq2c, hq2g⟩ := hRx8.out.at8 hpos
                cases e'
                have hTy := hT.out ys (List.mem_of_getElem? hx2)
                have hyn : q2.n = n2 := by rw [← hO2.1]; exact hTy.2
                obtain ⟨B2, nr, c2⟩ := q2
                dsimp only at hyn hgc2 hO2 hq2c hq2g hq2n
                obtain rfl : n2 = nr := hyn.symm
                have hn1 : 1 ≤ n2 := by omega
                have hn1' : (1 : Int) ≤ (n2 : Int) := by omega
                have hnc : (n2 : Int) ≤ (c2 : Int) := by omega
                have hM0 : (0 : Int) < (M : Int) := by omega
                replace hO2 := Lib.hid hO2
                replace hq2g := Lib.hid hq2g
                replace hTy := Lib.hid hTy
                have hpt := Lib.hid (part8s hO2.out.srow 1 n2 c2 hn1 (Nat.le_refl _) (fun h => by omega))
                have hyl := Lib.hid hO2.out.1
                have hty : Hid (ys.take n2 = ys) := Lib.hid (List.take_of_length_le (by rw [hyl.out]; exact Nat.le_refl _))
                have hT' := Lib.hid (hTs.out.put (ys := ys.drop 1) ⟨fun x hx => hTy.out.1 x (List.mem_of_mem_drop hx), by rw [List.length_drop, hTy.out.2]; omega⟩)
                by_cases hc1 : c2 = 1
                · exfalso
                  omega
                · have hcz : 1 ≤ c2 - 1 := by omega
                  have hI3 : Strs wx8 (B2.map (fun (x : Addr) => (⟨x.block, x.off + 1, none⟩ : Addr))) (n2 - 1) (ys.drop 1) := by
                    have := hpt.out
                    rw [hty.out] at this
                    simpa [Addr.add, hc1] using this
                  have hqb : ∀ p, (B2.map (fun (x : Addr) => (⟨x.block, x.off + 1, none⟩ : Addr))) = some p → p.block ≠ r ∧ p.block < wx8.heap.size ∧ p.block ≠ g := fun p hp => by
                    obtain ⟨b, hb, hbp⟩ : ∃ b, B2 = some b ∧ p.block = b.block := by
                      cases B2 with
                      | none => simp at hp
                      | some b =>
                        simp only [Option.map_some, Option.some.injEq] at hp
                        subst hp
                        exact ⟨b, rfl, rfl⟩
                    have h1 := hO2.out.own b hb
                    have h2 := hO2.out.lt b hb
                    have h3 := hq2g.out b hb
                    rw [hbp]
                    exact ⟨by omega, h2, h3⟩
                  have hY := Lib.hid (YSS.put8 hRx8.out hrl hpos ⟨B2.map (fun (x : Addr) => (⟨x.block, x.off + 1, none⟩ : Addr)), n2 - 1, c2 - 1⟩ (ys.drop 1) hI3 (by dsimp only; omega) hqb)
                  have hgg : wx8.grownBy (wx8.setCell ⟨g, 0, none⟩ (.slice (B2.map (fun (x : Addr) => (⟨x.block, x.off + 1, none⟩ : Addr))) (n2 - 1) (c2 - 1))) (some g) := grown_set
                  have hdf := Lib.hid (hdx8.out.young hgg (by omega) hgb)
                  have hsf := Lib.hid ((hsx8.grown hgg (by omega)).mono (show t + 3000 ≤ t + 4000 by omega))
                  clear hI3 hqb hgg hdx8 hsx8 hRx8 hO8 hO2 hTy hq2 hx2 hq2g hpt hyl hty
                  go_wp2
                  go_ret
                  exact ⟨_, M, _, _, rfl, by omega, hY.out, hT'.out, hsf.out, hdf.out⟩
              · have g1 : (x == 1) = false := beq_eq_false_iff_ne.2 hx1
                replace hx1 := Lib.hid hx1
                obtain ⟨A', c', e', hY⟩ := hRx8.out.yss (r := r) (by omega)
                cases e'
                replace hY := Lib.hid hY
                have hsf := Lib.hid (hsx8.mono (show t + 3000 ≤ t + 4000 by omega))
                clear hsx8 hRx8 hO8
                go_wp2
                go_ret
                exact ⟨_, M, _, T, rfl, by omega, hY.out, hTs.out, hsf.out, hdx8.out⟩
          · have hgt : decide ((0 : Int) < (M : Int)) = false := decide_eq_false (by omega)
            obtain ⟨A', c', rfl, hY⟩ := hR.out.yss (r := r) (by omega)
            replace hY := Lib.hid hY
            have hsf := Lib.hid (hsr.mono (show t + 2000 ≤ t + 4000 by omega))
            clear hsr hR
            go_wp2
            go_ret
            exact ⟨_, M, _, T, rfl, by omega, hY.out, hTs.out, hsf.out, hdr.out⟩
    | true =>
      have hb13 := below_a1 wa11 (.cells #[.int .i64 0, .int .i64 40, .int .i64 41] 2)
      have hl13 := (show Ints (wa11.alloc (.cells #[.int .i64 0, .int .i64 40, .int .i64 41] 2)) (some ⟨wa11.heap.size, 0, none⟩) 3 [0, 40, 41] from lit8 wa11 2 [0, 40, 41] 3 rfl)
      have hs13 := hs11.below hb13
      have hd13 := Lib.hid (hd11.out.below hb13 (by omega))
      have hsz13 := hd13.out.size
      have hzz13 := hb13.size
      have hR13 := Lib.hid (hR11.out.kept (fun g h1 h2 => hb13.block g h2))
      have hn13 : ∀ p : Addr, (some ⟨wa11.heap.size, 0, none⟩ : Option Addr) = some p → p.block ≠ r := fun p hp => by cases hp; simp only; omega
      clear hb13 hs11 hd11 hR11
      have hp14 := Lib.hid (among_any _ _ _ 3 3 _ _ hs13 (by omega) hl13 (by omega) (by omega) hn13)
      clear hs13
      go_wp2_with fail
      refine hp14.out.mono ?_
      rintro e wa14 ⟨z, zm, rfl, hs14, hg14⟩
      have hd14 := Lib.hid (hd13.out.pick hg14 (by omega))
      have hsz14 := hd14.out.size
      have hzz14 := hg14.size
      have hR14 := Lib.hid (hR13.out.kept (fun g h1 h2 => hg14.block g h2 (fun e => by have e2 := Option.some.inj e; omega)))
      clear hg14 hp14 hd13 hR13
      obtain ⟨M2, hM2, rfl⟩ : ∃ m : Nat, m ≤ 41 ∧ z = (m : Int) := by
        simp only [List.mem_cons, List.not_mem_nil, or_false] at zm
        rcases zm with rfl | rfl | rfl
        · exact ⟨0, by omega, rfl⟩
        · exact ⟨40, by omega, rfl⟩
        · exact ⟨41, by omega, rfl⟩
      clear zm
      go_wp2
      go_loopw [3, 6] (fun v kv wr => ∃ (k : Nat) (rs : List RowD) (T : List (List ByteArray)), kv = .int .i64 (k : Int) ∧ T.length + k = M2 ∧ SInv w.heap.size T.length v rs T wr ∧ fullT n2 T ∧ SrcAt wr r (t + 20 + 40 * T.length) ∧ Drawn r w.heap.size w wr ∧ w.heap.size ≤ wr.heap.size) (fun _ kv _ => (intOf kv).toNat)
      case atStart => exact ⟨M2, [], [], rfl, by simp, hR14.out, (fun x hx => by cases hx), hs14.mono (by simp), hd14.out, by omega⟩
      case round =>
        obtain ⟨k, rs, T, rfl, hTk, hR, hT, hsr, hdr, hNr⟩ := hrel
        rename World => wo
        have hTl : T.length ≤ 41 := by omega
        have hrlo : r < wo.heap.size := hsr.lt
        replace hR := Lib.hid hR
        replace hT := Lib.hid hT
        replace hdr := Lib.hid hdr
        by_cases hk : 0 < k
        · have hg : decide ((0 : Int) < (k : Int)) = true := decide_eq_true (by omega)
          obtain ⟨A5, c5, hv5, _⟩ := hR.out.yss (r := r) (by omega)
          subst hv5
          have hk41 : k ≤ 41 := by omega
          replace hTk := Lib.hid hTk
          generalize hTn : T.length = q at *
          replace hTn := Lib.hid hTn
          have hb1 := below_a1 wo (.cells #[] 9)
          have hs1 := Lib.hid (hsr.below hb1)
          have hd1 := Lib.hid ((Drawn.refl r wo.heap.size wo).below hb1 (Nat.le_refl _))
          have hN1 := Lib.hid hb1.size
          have ho1 := Lib.hid (empty_owns wo 9 wo.heap.size (Nat.le_refl _))
          clear hb1 hsr
          go_wp2
          go_loopw [7, 8] (fun v jv wq => ∃ (xs : List ByteArray) (j : Nat), jv = .int .i64 (j : Int) ∧ xs.length + j = n2 ∧ wq.ownsRow wo.heap.size 9 1 v xs.length (xs.flatMap strC) ∧ shortL xs ∧ SrcAt wq r (t + 20 + 40 * q + 2 * xs.length) ∧ Drawn r wo.heap.size wo wq ∧ wo.heap.size ≤ wq.heap.size) (fun _ jv _ => (intOf jv).toNat)
          case atStart => exact ⟨[], n2, rfl, by simp, ho1.out, (fun x hx => by cases hx), hs1.out.mono (by simp), hd1.out, hN1.out⟩
          case round =>
            obtain ⟨xs, j, rfl, hxj, hown, hxs, hsq, hdq, hNq⟩ := hrel
            rename World => wq
            have hxl : xs.length ≤ 13 := by omega
            replace hxs := Lib.hid hxs
            replace hdq := Lib.hid hdq
            have hj13 : j ≤ 13 := by omega
            replace hxj := Lib.hid hxj
            by_cases hj0 : 0 < j
            · have hgj : decide ((0 : Int) < (j : Int)) = true := decide_eq_true (by omega)
              obtain ⟨A7, c7, rfl⟩ := owns_slice hown
              have hcl := Lib.hid (l08cell_any r _ wq hsq (by omega))
              replace hown := Lib.hid hown
              clear hsq
              go_wp2_with fail
              refine hcl.out.mono ?_
              rintro e w3 ⟨a, rfl, hsa, hs3, hd3⟩
              have hown3 := Lib.hid (owns_block hown.out (fun g hg => hd3.block g (ge_own5 hown.out hg).2 (by have := (ge_own5 hown.out hg).1; omega)))
              have hd33 := Lib.hid (hdq.out.trans (hd3.down (by omega)))
              have hN3 := Nat.le_trans hNq hd3.size
              have hsx := Lib.hid (hxs.out.snoc hsa)
              have hln : Hid ((xs ++ [a] : List ByteArray).length = xs.length + 1) := Lib.hid (by simp)
              have hfl := Lib.hid (snoc8s xs a)
              have hlj : Hid ((xs ++ [a] : List ByteArray).length + (j - 1) = n2) := Lib.hid (by rw [hln.out]; have := hxj.out; omega)
              replace hs3 := Lib.hid hs3
              clear hcl hd3 hown hdq hsa hxs hxj
              generalize hpn : xs.length = pn at *
              go_wp2_with (at_builtin; refine wpList_append_own _ rfl _ _ 27 rfl wo.heap.size 9 j0 _ 1 16 Try.underlying27 hj hy0 hy1 hy2 rfl (by decide) _ _ _ rfl (hown3.out.alloc _) ⟨w3.heap.size, 0, none⟩ 1 1 [.string a] rfl rfl (news8 _ _ _) (one8s _) (by unfold maxLen; omega) (by omega) (by simp; omega) ?_)
              intro v2 w5 hown5 hgr5 hnil
              clear hnil
              have hrow5 : Hid (w5.ownsRow wo.heap.size 9 1 v2 (xs ++ [a] : List ByteArray).length ((xs ++ [a] : List ByteArray).flatMap strC)) := Lib.hid (by rw [hln.out, hfl.out]; exact hown5)
              have hd5 := Lib.hid ((hd33.out.below (below_a1 w3 _) hN3).youngO hgr5 (by simp; omega) (fun q hq => (ge_own5 hown3.out hq).1))
              have hs5 : Hid (SrcAt w5 r (t + 20 + 40 * q + 2 * (xs ++ [a] : List ByteArray).length)) := Lib.hid (((hs3.out.below (below_a1 w3 _)).grownO hgr5 (fun q hq => by have := (ge_own5 hown3.out hq).1; omega)).mono (by rw [hln.out]; omega))
              have hN5 : wo.heap.size ≤ w5.heap.size := by have := hgr5.size; simp at this; omega
              clear hown5 hgr5
              go_wp2
              go_roundw
              case rel => exact ⟨xs ++ [a], j - 1, by rw [Int.natCast_sub (by omega)]; rfl, hlj.out, hrow5.out, hsx.out, hs5.out, hd5.out, hN5⟩
              case measure => simp [intOf]; omega
            · obtain rfl : j = 0 := by omega
              have hgj : decide ((0 : Int) < ((0 : Nat) : Int)) = false := rfl
              have hxn : xs.length = n2 := by have := hxj.out; omega
              obtain ⟨A7, c7, rfl, hO7⟩ := owns_s8 rfl hown
              have hcap7 := owns_cap hown
              have hRq := hR.out.kept (w' := wq) (fun g hg1 hg2 => hdq.out.block g hg2 (by omega))
              have hM : ∀ g, (Value.slice A5 q c5).ownBlock = some g → g < wo.heap.size := fun g hg => (ge_own5 hR.out.2.2.1 hg).2
              have hown9 := Lib.hid hRq.2.2.1
              have hstep := Lib.hid (fun g cap w5 => hRq.step (c := c7) (g := g) (cap := cap) (w5 := w5) hM hNr (below_a1 wq (.cells #[.slice A7 xs.length c7] 27)) hO7 ⟨by omega, hcap7⟩)
              have hTn2 := Lib.hid (hT.out.snoc hxs.out hxn)
              have hsq' := Lib.hid hsq
              have hdq' : Hid (Drawn r w.heap.size w wq) := Lib.hid (hdr.out.trans (hdq.out.down hNr))
              have hlnT : Hid ((T ++ [xs] : List (List ByteArray)).length = q + 1) := Lib.hid (by rw [List.length_append, hTn.out]; rfl)
              replace hxn := Lib.hid hxn
              clear hM hO7 hown hsq hdq hRq hcap7 hxs
              go_wp2_with (at_builtin; refine wpList_append_lies _ rfl _ _ 24 rfl w.heap.size 27 i0 _ 1 24 Try.underlying24 hi hz0 hz1 hz2 rfl (by decide) _ q (rs.flatMap RowD.cells) rfl (hown9.out.alloc _) ⟨wq.heap.size, 0, none⟩ 1 1 [.slice A7 xs.length c7] rfl rfl ?a3 ?b3 (by decide) ?c3 ?d3 ?e3 _ rfl ?_)
              case a3 =>
                intro j u hj
                match j, hj with
                | 0, hj => cases hj; exact cell_new (by simp [Addr.add]) rfl
                | j + 1, hj => simp at hj
              case b3 =>
                intro u hu
                simp only [List.mem_cons, List.not_mem_nil, or_false] at hu
                rcases hu with rfl; rfl
              case c3 => unfold maxLen; omega
              case d3 => omega
              case e3 => simp; omega
              intro g cap w5 ho5 hg5 hor5 hlt5
              have hR5 := Lib.hid (hstep.out g cap w5 ho5 hg5 (by simpa using hor5))
              have hd5 := Lib.hid ((hdq'.out.below (below_a1 wq _) (by omega)).youngO hg5 (by simp; omega) (fun q hq => (ge_own5 hown9.out hq).1))
              have hs5 : Hid (SrcAt w5 r (t + 20 + 40 * (T ++ [xs] : List (List ByteArray)).length)) := Lib.hid (((hsq'.out.below (below_a1 wq _)).grownO hg5 (fun q hq => by have := (ge_own5 hown9.out hq).1; omega)).mono (by rw [hlnT.out]; omega))
              have hN5 : w.heap.size ≤ w5.heap.size := by have := hg5.size; simp at this; omega
              have hlk : Hid ((T ++ [xs] : List (List ByteArray)).length + (k - 1) = M2) := Lib.hid (by rw [hlnT.out]; have := hTk.out; omega)
              clear ho5 hg5 hor5
              go_wp2
              go_roundw
              case rel => exact ⟨k - 1, rs ++ [⟨A7, xs.length, c7⟩], T ++ [xs], by rw [Int.natCast_sub (by omega)]; rfl, hlk.out, by rw [hlnT.out]; exact hR5.out, hTn2.out, hs5.out, hd5.out, hN5⟩
              case measure => simp [intOf]; omega
        · obtain rfl : k = 0 := by omega
          have hg : decide ((0 : Int) < ((0 : Nat) : Int)) = false := rfl
          have hTM : T.length = M2 := by omega
          rw [hTM] at hR hsr
          have hTs := Lib.hid (hT.out.short (by omega))
          replace hTM := Lib.hid hTM
          replace hsr := hsr.mono (show t + 20 + 40 * M2 ≤ t + 2000 by omega)
          clear hTk hTl
          by_cases hpos : 0 < M2
          · have hgt : decide ((0 : Int) < (M2 : Int)) = true := decide_eq_true (by omega)
            have hp15 := Lib.hid (pick_any _ _ (M2 : Int) wo hsr (by omega) (by omega))
            clear hsr
            go_wp2_with fail
            refine hp15.out.mono ?_
            rintro e wa15 ⟨px, rfl, px0, px1, px2, hs15, hg15⟩
            have hd15 := Lib.hid (hdr.out.pick hg15 (by omega))
            have hsz15 := hd15.out.size
            have hzz15 := hg15.size
            have hR15 := Lib.hid (hR.out.kept (fun g h1 h2 => hg15.block g h2 (fun e => by have e2 := Option.some.inj e; omega)))
            clear hg15 hp15 hdr hR
            obtain ⟨p, hpM, rfl⟩ : ∃ p : Nat, p < M2 ∧ px = (p : Int) := ⟨px.toNat, by omega, by omega⟩
            clear px0 px1 px2
            obtain ⟨g, c, q1, xs, rfl, hgb, hgl, hgf, hgc, hq1, hx1, hO1, hq1n, hq1c, hq1g⟩ := hR15.out.at8 hpM
            have hTx := hT.out xs (List.mem_of_getElem? hx1)
            have hxn : q1.n = n2 := by rw [← hO1.1]; exact hTx.2
            have hp0 : (0 : Int) ≤ (p : Int) := Int.natCast_nonneg _
            have hp1 : (p : Int) < (M2 : Int) := by omega
            replace hO1 := Lib.hid hO1
            replace hq1g := Lib.hid hq1g
            obtain ⟨B, nq, cq⟩ := q1
            dsimp only at hxn hgc hO1 hq1c hq1g
            obtain rfl : n2 = nq := hxn.symm
            replace hTx := Lib.hid hTx
            clear hq1 hx1 hq1n
            obtain ⟨gb, rfl⟩ : ∃ gb, B = some ⟨gb, 0, none⟩ := by
              rcases hO1.out with ⟨_, ⟨_, h0⟩ | ⟨g, m, f, h1, _⟩⟩
              · omega
              · exact ⟨g, h1⟩
            have hpp := Lib.hid (pick_any _ _ 16 wa15 hs15 (by omega) (by omega))
            clear hs15
            go_wp2_with fail
            refine hpp.out.mono ?_
            rintro e wx8 ⟨x, rfl, x0, _, _, hsx8, hgx8⟩
            have hzx8 := hgx8.size
            have hdx8 := Lib.hid (hd15.out.pick hgx8 (by omega))
            have hblkx8 := Lib.hid hgx8.block
            have hRx8 := Lib.hid (hR15.out.kept (fun g h1 h2 => hgx8.block g h2 (fun e => by have e2 := Option.some.inj e; omega)))
            have hO8 := Lib.hid (hO1.out.block (fun p hp => hgx8.block _ (hO1.out.lt p hp) (fun e => by have := hO1.out.own p hp; have e2 := Option.some.inj e; omega)))
            replace hsx8 := hsx8.mono (show t + 2000 + 2 + 2 ≤ t + 3000 by omega)
            clear hpp hgx8 hd15 hR15 hO1 hgc hgf hblkx8
            by_cases hx0 : x = 0
            · have g0 : (x == 0) = true := beq_iff_eq.2 hx0
              replace hx0 := Lib.hid hx0
              have hbx9 := below_a1 wx8 (.cells #[.string ⟨#[127]⟩, .string ⟨#[49, 50, 51, 52, 53, 54, 55, 56, 57, 48, 49, 50, 51, 52, 53, 54, 55, 56, 57, 48, 49, 50, 51, 52, 53, 54, 55, 56, 57, 48]⟩, .string ⟨#[49, 50, 51, 52, 53, 54, 55, 56, 57, 48, 49, 50, 51, 52, 53, 54, 55, 56, 57, 48, 49, 50, 51, 52, 53, 54, 55, 56, 57, 48, 49]⟩] 9)
              have hlx9 : Strs (wx8.alloc (.cells #[.string ⟨#[127]⟩, .string ⟨#[49, 50, 51, 52, 53, 54, 55, 56, 57, 48, 49, 50, 51, 52, 53, 54, 55, 56, 57, 48, 49, 50, 51, 52, 53, 54, 55, 56, 57, 48]⟩, .string ⟨#[49, 50, 51, 52, 53, 54, 55, 56, 57, 48, 49, 50, 51, 52, 53, 54, 55, 56, 57, 48, 49, 50, 51, 52, 53, 54, 55, 56, 57, 48, 49]⟩] 9)) (some ⟨wx8.heap.size, 0, none⟩) 3 [⟨#[127]⟩, ⟨#[49, 50, 51, 52, 53, 54, 55, 56, 57, 48, 49, 50, 51, 52, 53, 54, 55, 56, 57, 48, 49, 50, 51, 52, 53, 54, 55, 56, 57, 48]⟩, ⟨#[49, 50, 51, 52, 53, 54, 55, 56, 57, 48, 49, 50, 51, 52, 53, 54, 55, 56, 57, 48, 49, 50, 51, 52, 53, 54, 55, 56, 57, 48, 49]⟩] := slit8 wx8 9 [⟨#[127]⟩, ⟨#[49, 50, 51, 52, 53, 54, 55, 56, 57, 48, 49, 50, 51, 52, 53, 54, 55, 56, 57, 48, 49, 50, 51, 52, 53, 54, 55, 56, 57, 48]⟩, ⟨#[49, 50, 51, 52, 53, 54, 55, 56, 57, 48, 49, 50, 51, 52, 53, 54, 55, 56, 57, 48, 49, 50, 51, 52, 53, 54, 55, 56, 57, 48, 49]⟩] 3 rfl
              have hsx9 := hsx8.below hbx9
              have hdx9 := Lib.hid (hdx8.out.below hbx9 (by omega))
              have hRx9 := Lib.hid (hRx8.out.kept (fun g h1 h2 => hbx9.block g h2))
              have hO9 := Lib.hid (hO8.out.below hbx9)
              have hzx9 := hbx9.size
              have hne9 : ∀ p : Addr, (some ⟨wx8.heap.size, 0, none⟩ : Option Addr) = some p → p.block ≠ r := fun p hp => by cases hp; simp only; omega
              have hsl9 := Lib.hid (shortAll.out (show shortAll [⟨#[127]⟩, ⟨#[49, 50, 51, 52, 53, 54, 55, 56, 57, 48, 49, 50, 51, 52, 53, 54, 55, 56, 57, 48, 49, 50, 51, 52, 53, 54, 55, 56, 57, 48]⟩, ⟨#[49, 50, 51, 52, 53, 54, 55, 56, 57, 48, 49, 50, 51, 52, 53, 54, 55, 56, 57, 48, 49, 50, 51, 52, 53, 54, 55, 56, 57, 48, 49]⟩] = true by decide))
              have hpx9 := Lib.hid (text_any r _ _ 3 3 _ _ hsx9 (by omega) hlx9 (by omega) (by omega) hne9)
              clear hbx9 hlx9 hsx9 hne9 hsx8 hdx8 hRx8 hO8
              have hn0 : 0 < n2 := by omega
              have hn0' : (0 : Int) < (n2 : Int) := by omega
              go_wp2_with fail
              refine hpx9.out.mono ?_
              rintro e wt ⟨z, zm, rfl, hst, hgt9⟩
              have hzt := hgt9.size
              have hdt := hdx9.out.pick hgt9 (by omega)
              have hRt := hRx9.out.kept (fun g h1 h2 => hgt9.block g h2 (fun e => by have e2 := Option.some.inj e; omega))
              have hOt : OStrs wt w.heap.size (some ⟨gb, 0, none⟩) n2 xs := hO9.out.block (fun p hp => hgt9.block _ (hO9.out.lt p hp) (fun e => by have := hO9.out.own p hp; have e2 := Option.some.inj e; omega))
              have hzs := hsl9.out z zm
              obtain ⟨y, p0, p1, p2, p3⟩ := hOt.parts8 hn0
              obtain ⟨A', c', e', hY⟩ := hRt.yss (r := r) (by omega)
              cases e'
              obtain ⟨T', hY', hT'⟩ := hY.stored (g := gb) (o := 0) (fun p hp => by cases hp; exact fun e => hq1g.out _ rfl e.symm) z hzs hTs.out
              have hgg : wt.grownBy (wt.setCell ⟨gb, 0, none⟩ (.string z)) (some gb) := grown_set
              have hdf := Lib.hid (hdt.young hgg (by omega) (by omega))
              have hsf := Lib.hid ((hst.grown hgg (by omega)).mono (show t + 3000 + 2 ≤ t + 4000 by omega))
              replace hY' := Lib.hid hY'
              replace hT' := Lib.hid hT'
              clear hpx9 hsl9 hgt9 hdx9 hRx9 hO9 hdt hRt hOt hst hgg hY zm hzs
              go_wp2
              go_ret
              exact ⟨_, M2, _, T', rfl, by omega, hY'.out, hT'.out, hsf.out, hdf.out⟩
            · have g0 : (x == 0) = false := beq_eq_false_iff_ne.2 hx0
              replace hx0 := Lib.hid hx0
              by_cases hx1 : x = 1
              · have g1 : (x == 1) = true := beq_iff_eq.2 hx1
                replace hx1 := Lib.hid hx1
                obtain ⟨g', c', q2, ys, e', hgb2, hgl2, hgf2, hgc2, hq2, hx2, hO2, hq2n, hq2c, hq2g⟩ := hRx8.out.at8 hpos
                cases e'
                have hTy := hT.out ys (List.mem_of_getElem? hx2)
                have hyn : q2.n = n2 := by rw [← hO2.1]; exact hTy.2
                obtain ⟨B2, nr, c2⟩ := q2
                dsimp only at hyn hgc2 hO2 hq2c hq2g hq2n
                obtain rfl : n2 = nr := hyn.symm
                have hn1 : 1 ≤ n2 := by omega
                have hn1' : (1 : Int) ≤ (n2 : Int) := by omega
                have hnc : (n2 : Int) ≤ (c2 : Int) := by omega
                have hM0 : (0 : Int) < (M2 : Int) := by omega
                replace hO2 := Lib.hid hO2
                replace hq2g := Lib.hid hq2g
                replace hTy := Lib.hid hTy
                have hpt := Lib.hid (part8s hO2.out.srow 1 n2 c2 hn1 (Nat.le_refl _) (fun h => by omega))
                have hyl := Lib.hid hO2.out.1
                have hty : Hid (ys.take n2 = ys) := Lib.hid (List.take_of_length_le (by rw [hyl.out]; exact Nat.le_refl _))
                have hT' := Lib.hid (hTs.out.put (ys := ys.drop 1) ⟨fun x hx => hTy.out.1 x (List.mem_of_mem_drop hx), by rw [List.length_drop, hTy.out.2]; omega⟩)
                by_cases hc1 : c2 = 1
                · exfalso
                  omega
                · have hcz : 1 ≤ c2 - 1 := by omega
                  have hI3 : Strs wx8 (B2.map (fun (x : Addr) => (⟨x.block, x.off + 1, none⟩ : Addr))) (n2 - 1) (ys.drop 1) := by
                    have := hpt.out
                    rw [hty.out] at this
                    simpa [Addr.add, hc1] using this
                  have hqb : ∀ p, (B2.map (fun (x : Addr) => (⟨x.block, x.off + 1, none⟩ : Addr))) = some p → p.block ≠ r ∧ p.block < wx8.heap.size ∧ p.block ≠ g := fun p hp => by
                    obtain ⟨b, hb, hbp⟩ : ∃ b, B2 = some b ∧ p.block = b.block := by
                      cases B2 with
                      | none => simp at hp
                      | some b =>
                        simp only [Option.map_some, Option.some.injEq] at hp
                        subst hp
                        exact ⟨b, rfl, rfl⟩
                    have h1 := hO2.out.own b hb
                    have h2 := hO2.out.lt b hb
                    have h3 := hq2g.out b hb
                    rw [hbp]
                    exact ⟨by omega, h2, h3⟩
                  have hY := Lib.hid (YSS.put8 hRx8.out hrl hpos ⟨B2.map (fun (x : Addr) => (⟨x.block, x.off + 1, none⟩ : Addr)), n2 - 1, c2 - 1⟩ (ys.drop 1) hI3 (by dsimp only; omega) hqb)
                  have hgg : wx8.grownBy (wx8.setCell ⟨g, 0, none⟩ (.slice (B2.map (fun (x : Addr) => (⟨x.block, x.off + 1, none⟩ : Addr))) (n2 - 1) (c2 - 1))) (some g) := grown_set
                  have hdf := Lib.hid (hdx8.out.young hgg (by omega) hgb)
                  have hsf := Lib.hid ((hsx8.grown hgg (by omega)).mono (show t + 3000 ≤ t + 4000 by omega))
                  clear hI3 hqb hgg hdx8 hsx8 hRx8 hO8 hO2 hTy hq2 hx2 hq2g hpt hyl hty
                  go_wp2
                  go_ret
                  exact ⟨_, M2, _, _, rfl, by omega, hY.out, hT'.out, hsf.out, hdf.out⟩
              · have g1 : (x == 1) = false := beq_eq_false_iff_ne.2 hx1
                replace hx1 := Lib.hid hx1
                obtain ⟨A', c', e', hY⟩ := hRx8.out.yss (r := r) (by omega)
                cases e'
                replace hY := Lib.hid hY
                have hsf := Lib.hid (hsx8.mono (show t + 3000 ≤ t + 4000 by omega))
                clear hsx8 hRx8 hO8
                go_wp2
                go_ret
                exact ⟨_, M2, _, T, rfl, by omega, hY.out, hTs.out, hsf.out, hdx8.out⟩
          · have hgt : decide ((0 : Int) < (M2 : Int)) = false := decide_eq_false (by omega)
            obtain ⟨A', c', rfl, hY⟩ := hR.out.yss (r := r) (by omega)
            replace hY := Lib.hid hY
            have hsf := Lib.hid (hsr.mono (show t + 2000 ≤ t + 4000 by omega))
            clear hsr hR
            go_wp2
            go_ret
            exact ⟨_, M2, _, T, rfl, by omega, hY.out, hTs.out, hsf.out, hdr.out⟩
end Go.Proofs.Ytmgoidngecimbaa
