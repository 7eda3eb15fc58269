/- IsLean of spec and impl; impl.idleEdges. -/
import Derived.Test.YtifialdkjnmfoaaIdm
import Derived.Test.YtifialdkjnmfoaaBs
import Derived.Test.YtifialdkjnmfoaaLw
namespace Go.Proofs.Ytifialdkjnmfoaa.ln
open kit bg sg opn strs only hb sig isig un over gn nm inn ht gd im pt marks eqs hc hi hw hn rs br bm bw cf lf ib isa lawb lw rt chd pts psp idl idi idm bs
open Go.RowKit
set_option linter.unusedVariables false

theorem sel_none {P : Nat → Bool} : ∀ k, (∀ i, i < k → P i = false) → sel P k = []
  | 0, _ => rfl
  | k + 1, h => by rw [sel_no (h k (Nat.lt_succ_self k))]; exact sel_none k (fun i hi => h i (by omega))
theorem sel_once {P : Nat → Bool} : ∀ k, (∀ j, j < k → P j = true → ∀ i, i < j → P i = false) → (sel P k).length ≤ 1
  | 0, _ => Nat.zero_le _
  | k + 1, h => by
    cases hp : P k with
    | false => rw [sel_no hp]; exact sel_once k (fun j hj => h j (by omega))
    | true => rw [sel_yes hp, sel_none k (h k (Nat.lt_succ_self k) hp)]; exact Nat.le_refl _
theorem sel_ex {P : Nat → Bool} : ∀ k, (sel P k).length ≠ 0 → ∃ i, i < k ∧ P i = true
  | 0, h => absurd rfl h
  | k + 1, h => by
    cases hp : P k with
    | false =>
      rw [sel_no hp] at h
      obtain ⟨i, hi, hq⟩ := sel_ex k h
      exact ⟨i, by omega, hq⟩
    | true => exact ⟨k, Nat.lt_succ_self k, hp⟩
theorem sel_pos {P : Nat → Bool} {i : Nat} (hp : P i = true) : ∀ k, i < k → 0 < (sel P k).length
  | 0, h => absurd h (Nat.not_lt_zero i)
  | k + 1, h => by
    cases hk : P k with
    | false =>
      rw [sel_no hk]
      have : i ≠ k := fun e => by rw [e, hk] at hp; cases hp
      exact sel_pos hp k (by omega)
    | true => rw [sel_yes hk, List.length_append]; simp
noncomputable def leanQ (b : Big) : Bool := decide ((sel (idleP b) b.edges.toNat).length = 0)
theorem sel_mem {P : Nat → Bool} {z : Int} : ∀ k, z ∈ sel P k → 0 ≤ z ∧ z < k
  | 0, h => by cases h
  | k + 1, h => by
    cases hp : P k with
    | false => rw [sel_no hp] at h; have := sel_mem k h; omega
    | true =>
      rw [sel_yes hp] at h
      rcases List.mem_append.1 h with h | h
      · have := sel_mem k h; omega
      · have := List.mem_singleton.1 h; omega
theorem sel_add (P : Nat → Bool) (k : Nat) : ∀ m, ∃ T, sel P (k + m) = sel P k ++ T ∧ ∀ z ∈ T, (k : Int) ≤ z
  | 0 => ⟨[], by simp, by simp⟩
  | m + 1 => by
    obtain ⟨T, h1, h2⟩ := sel_add P k m
    cases hp : P (k + m) with
    | false => exact ⟨T, by rw [← Nat.add_assoc, sel_no hp, h1], h2⟩
    | true =>
      refine ⟨T ++ [((k + m : Nat) : Int)], by rw [← Nat.add_assoc, sel_yes hp, h1, List.append_assoc], fun z hz => ?_⟩
      rcases List.mem_append.1 hz with h | h
      · exact h2 z h
      · have := List.mem_singleton.1 h; omega
theorem sel_asc (P : Nat → Bool) : ∀ k, Asc (sel P k)
  | 0 => fun i j a b _ h => by cases h
  | k + 1 => by
    cases hp : P k with
    | false => rw [sel_no hp]; exact sel_asc P k
    | true =>
      rw [sel_yes hp]
      intro i j a b hij ha hb
      have hjl := (List.getElem?_eq_some_iff.1 hb).1
      rw [List.length_append, List.length_singleton] at hjl
      by_cases hj : j < (sel P k).length
      · rw [List.getElem?_append_left hj] at hb
        rw [List.getElem?_append_left (by omega)] at ha
        exact sel_asc P k i j a b hij ha hb
      · obtain rfl : j = (sel P k).length := by omega
        rw [List.getElem?_append_right (Nat.le_refl _), Nat.sub_self] at hb
        injection hb with hb
        by_cases hi : i < (sel P k).length
        · rw [List.getElem?_append_left hi] at ha
          have := sel_mem k (List.mem_of_getElem? ha)
          omega
        · obtain rfl : i = (sel P k).length := by omega
          rw [List.getElem?_append_right (Nat.le_refl _), Nat.sub_self] at ha
          injection ha with ha
          omega
/-- where a search for k ends -/
theorem sel_pos_at {P : Nat → Bool} {k N m : Nat} (hk : k ≤ N) (h : PosP (sel P N) k m) : m = (sel P k).length ∧ (sel P N).take m = sel P k := by
  obtain ⟨T, h1, h2⟩ := sel_add P k (N - k)
  rw [show k + (N - k) = N by omega] at h1
  obtain ⟨p1, p2, p3⟩ := h
  have e : m = (sel P k).length := by
    by_cases ha : m < (sel P k).length
    · have e : (sel P k)[m]? = some ((sel P k)[m]) := List.getElem?_eq_getElem ha
      have := p3 m _ (Nat.le_refl _) (by rw [h1, List.getElem?_append_left ha]; exact e)
      have := sel_mem k (List.mem_of_getElem? e)
      omega
    · by_cases hb : (sel P k).length < m
      · have hl : (sel P k).length < (sel P N).length := by omega
        obtain ⟨a, e⟩ : ∃ a, (sel P N)[(sel P k).length]? = some a := ⟨_, List.getElem?_eq_getElem hl⟩
        have h3 := p2 _ _ hb e
        rw [h1, List.getElem?_append_right (Nat.le_refl _), Nat.sub_self] at e
        have := h2 _ (List.mem_of_getElem? e)
        omega
      · omega
  refine ⟨e, ?_⟩
  rw [e, h1, List.take_left']
  rfl
theorem lean_bad {b : Big} {k : Nat} (hk : (k : Int) < b.edges) (h : idleB b (k : Int) = true) : leanQ b = false := by
  unfold leanQ
  have := sel_pos (P := idleP b) (i := k) h b.edges.toNat (by omega)
  exact decide_eq_false (by omega)
theorem lean_end {b : Big} (h : ∀ k : Nat, (k : Int) < b.edges → idleB b (k : Int) = false) : leanQ b = true := by
  unfold leanQ
  rw [sel_none (P := idleP b) _ (fun i hi => h i (by omega))]
  rfl

set_option maxRecDepth 20000 in
set_option maxHeartbeats 1600000 in
theorem sLn_leaf (A1 A2 A4 A5 : Option Addr) (n1 n2 n4 n5 c1 c2 c4 c5 : Nat) (cs : List Ctl) (b : Big) (w0 w : World) (h1 : NdsAt w0 w0.heap.size A1 n1 b.nodes) (h5 : WrsAt w0 w0.heap.size A5 n5 b.inner) (hb0 : Below w0.heap.size w0 w) (hg : bigB cs b = true) :
    Calls Try.prog 129 #[.agg #[.int .i64 b.roots, .slice A1 n1 c1, .slice A2 n2 c2, .int .i64 b.edges, .slice A4 n4 c4, .slice A5 n5 c5]] w (Post (leanQ b) w) := by
  have hz := sizes_of (big_of hg).2.1
  have l1 := h1.1
  have l5 := h5.1
  have HBox : Hid (BoxAt (w.alloc (.cells #[.int .i64 b.roots, .slice A1 n1 c1, .slice A2 n2 c2, .int .i64 b.edges, .slice A4 n4 c4, .slice A5 n5 c5] 39)) w.heap.size 39 (.int .i64 b.roots) (.slice A1 n1 c1) (.slice A2 n2 c2) (.int .i64 b.edges) (.slice A4 n4 c4) (.slice A5 n5 c5)) := Lib.hid (six_new w _ _ _ _ _ _ _)
  have HB0 := Lib.hid ((Below.refl w.heap.size w).alloc (Nat.le_refl _) (.cells #[.int .i64 b.roots, .slice A1 n1 c1, .slice A2 n2 c2, .int .i64 b.edges, .slice A4 n4 c4, .slice A5 n5 c5] 39))
  obtain ⟨W, hW⟩ : ∃ W, w.alloc (.cells #[.int .i64 b.roots, .slice A1 n1 c1, .slice A2 n2 c2, .int .i64 b.edges, .slice A4 n4 c4, .slice A5 n5 c5] 39) = W := ⟨_, rfl⟩
  have hWz : W.heap.size = w.heap.size + 1 := by rw [← hW]; simp
  rw [hW] at HBox HB0
  have HWq := Lib.hid hW
  have hWs : w.heap.size < W.heap.size := by omega
  have HW0 := Lib.hid (hb0.trans (HB0.out.mono hb0.size))
  have HI := Lib.hid (fun (k : Nat) (w2 : World) (hb2 : Below w0.heap.size w0 w2) => idle_any A1 A4 A5 n1 n4 n5 c1 c4 c5 (.int .i64 b.roots) (.slice A2 n2 c2) (.int .i64 b.edges) b (k : Int) w0 w2 h1 h5 hb2 (by omega) (by omega) (links3 hg))
  obtain ⟨E, hE⟩ : ∃ E : Nat, b.edges = E := ⟨b.edges.toNat, by omega⟩
  have hEl : E ≤ 8 := by omega
  have HE := Lib.hid hE
  rw [hE] at HI HBox HWq
  rw [hE]
  clear hW hz l1 l5 hg hb0 hE
  go_enter Try.func129, Try.ntmps129
  go_wp2_with fail
  rw [HWq.out]
  go_loopw [3] (fun i wr => ∃ k : Nat, k ≤ E ∧ i = .int .i64 k ∧ (∀ j : Nat, j < k → idleB b (j : Int) = false) ∧ Below W.heap.size W wr) (fun i _ => E - (intOf i).toNat)
  case atStart => exact ⟨0, Nat.zero_le _, rfl, fun j hj => absurd hj (Nat.not_lt_zero j), Below.refl _ _⟩
  case round =>
    obtain ⟨k, hk, rfl, hall, hbel⟩ := hrel
    have HA := Lib.hid hall
    have HBel := Lib.hid hbel
    have hbw := HW0.out.trans (hbel.mono HW0.out.size)
    obtain ⟨x0, x1, x2, x3, x4, x5⟩ := (HBox.out.below hbel hWs).get
    clear hall hbel
    by_cases hlt : k < E
    · have C2 := HI.out k wr hbw
      cases hid : idleB b (k : Int) with
      | false =>
        rw [hid] at C2
        have HN := Lib.hid hid
        clear hid
        go_wp2_with fail
        refine C2.mono ?_
        rintro e w2 ⟨rfl, hb2⟩
        have HB2 := Lib.hid (HBel.out.trans (hb2.mono HBel.out.size))
        clear C2 hb2
        go_wp2_with fail
        go_roundw
        case rel => exact ⟨k + 1, by omega, by go_num, fun j hj => by
          by_cases e : j = k
          · subst e; exact HN.out
          · exact HA.out j (by omega), HB2.out⟩
        case measure => simp [intOf]; omega
      | true =>
        rw [hid] at C2
        have HN := Lib.hid (lean_bad (b := b) (k := k) (by rw [HE.out]; omega) hid)
        clear hid
        go_wp2_with fail
        refine C2.mono ?_
        rintro e w2 ⟨rfl, hb2⟩
        have HB2 := Lib.hid (HBel.out.trans (hb2.mono HBel.out.size))
        clear C2 hb2
        go_wp2_with fail
        go_ret
        exact ⟨by rw [HN.out]; rfl, HB0.out.trans (HB2.out.mono HB0.out.size)⟩
    · obtain rfl : k = E := by omega
      have HY := Lib.hid (lean_end (b := b) (fun j hj => HA.out j (by rw [HE.out] at hj; omega)))
      go_wp2_with fail
      go_ret
      exact ⟨by rw [HY.out]; rfl, HB0.out.trans (HBel.out.mono HB0.out.size)⟩

theorem ints_take {w : World} {B n p : Nat} {A : Option Addr} {zs : List Int} (h : IntsAt w B A n zs) (hp : p ≤ n) : IntsAt w B A p (zs.take p) := by
  obtain ⟨h1, h2⟩ := h
  have hl : zs.length = n := by simpa using h1
  refine ⟨by simp; omega, fun h0 => ?_⟩
  obtain ⟨b, off, e, hb, hc⟩ := h2 (by omega)
  refine ⟨b, off, e, hb, fun k u hu => hc k u ?_⟩
  rw [List.getElem?_map] at hu ⊢
  obtain ⟨s, hs, rfl⟩ := Option.map_eq_some_iff.1 hu
  have hk : k < p := by have := (List.getElem?_eq_some_iff.1 hs).1; rw [List.length_take] at this; omega
  rw [List.getElem?_take_of_lt hk] at hs
  rw [hs]; rfl
noncomputable def ieR (cs : List Ctl) (b : Big) : List Int := if bigB cs b = true then sel (idleP b) b.edges.toNat else []
theorem ieR_no {cs : List Ctl} {b : Big} (h : bigB cs b = false) : ieR cs b = [] := by unfold ieR; rw [h]; rfl
theorem ieR_yes {cs : List Ctl} {b : Big} (h : bigB cs b = true) : ieR cs b = sel (idleP b) b.edges.toNat := by unfold ieR; rw [if_pos h]
set_option maxRecDepth 20000 in
set_option maxHeartbeats 1600000 in
theorem ide_any (A : Option Addr) (n c : Nat) (cs : List Ctl) (v : Value) (b : Big) (w : World) (hC : CtlsAt w w.heap.size A n cs) (hv : BigAt w w.heap.size v b) (hn : n ≤ 1048576) (hs : ∀ c ∈ cs, c.name.size ≤ 1048576) (hS : BigS b) (hw : BigW b) :
    Calls Try.prog 130 #[.slice A n c, v] w fun e w' => (∃ Ai m ci, e = .returned (.tuple #[.slice Ai m ci, .bool (bigB cs b)]) ∧ IntsAt w' w'.heap.size Ai m (ieR cs b)) ∧ Below w.heap.size w w' := by
  obtain ⟨A1, n1, c1, A2, n2, c2, A4, n4, c4, A5, n5, c5, rfl, h1, h2, h4, h5⟩ := hv
  have HBox : Hid (BoxAt (w.alloc (.cells #[.int .i64 b.roots, .slice A1 n1 c1, .slice A2 n2 c2, .int .i64 b.edges, .slice A4 n4 c4, .slice A5 n5 c5] 39)) w.heap.size 39 (.int .i64 b.roots) (.slice A1 n1 c1) (.slice A2 n2 c2) (.int .i64 b.edges) (.slice A4 n4 c4) (.slice A5 n5 c5)) := Lib.hid (six_new w _ _ _ _ _ _ _)
  have HB0 := Lib.hid ((Below.refl w.heap.size w).alloc (Nat.le_refl _) (.cells #[.int .i64 b.roots, .slice A1 n1 c1, .slice A2 n2 c2, .int .i64 b.edges, .slice A4 n4 c4, .slice A5 n5 c5] 39))
  obtain ⟨W, hW⟩ : ∃ W, w.alloc (.cells #[.int .i64 b.roots, .slice A1 n1 c1, .slice A2 n2 c2, .int .i64 b.edges, .slice A4 n4 c4, .slice A5 n5 c5] 39) = W := ⟨_, rfl⟩
  have hWz : W.heap.size = w.heap.size + 1 := by rw [← hW]; simp
  rw [hW] at HBox HB0
  have HWq := Lib.hid hW
  have hWs : w.heap.size < W.heap.size := by omega
  have hVW : BigAt W W.heap.size (.agg #[.int .i64 b.roots, .slice A1 n1 c1, .slice A2 n2 c2, .int .i64 b.edges, .slice A4 n4 c4, .slice A5 n5 c5]) b := BigAt.wide (BigAt.below ⟨_, _, _, _, _, _, _, _, _, _, _, _, rfl, h1, h2, h4, h5⟩ HB0.out) HB0.out.size
  clear hW hWz
  have C := iIdl_any A n c cs _ b W ((hC.below HB0.out).wide HB0.out.size) hVW hn hs hS hw
  obtain ⟨x0, x1, x2, x3, x4, x5⟩ := HBox.out.get
  cases hq : bigB cs b with
  | false =>
    rw [hq] at C
    have HR := Lib.hid (ieR_no hq)
    clear hq hVW
    go_enter Try.func130, Try.ntmps130
    go_wp2_with fail
    rw [HWq.out]
    go_wp2_with fail
    refine C.mono ?_
    rintro e w1 ⟨v1, rfl, hr, hb⟩
    have hb1 := HB0.out.trans (hb.mono HB0.out.size)
    clear x0 x1 x2 x3 x4 x5 C hb hr
    go_wp2_with fail
    go_ret2
    exact ⟨⟨none, 0, 0, rfl, by rw [HR.out]; exact ⟨by simp, fun h => by omega⟩⟩, hb1⟩
  | true =>
    rw [hq] at C
    have HR := Lib.hid (ieR_yes hq)
    have HI := Lib.hid (idlR_yes hq)
    have hz := sizes_of (big_of hq).2.1
    obtain ⟨E, hE⟩ : ∃ E : Nat, b.edges = E := ⟨b.edges.toNat, by omega⟩
    have hEl : E ≤ 8 := by omega
    have hN : (b.edges + b.outer.length).toNat = E + b.outer.length := by omega
    have hN2 : E + b.outer.length ≤ 24 := by omega
    rw [hN] at HI
    rw [hE, Int.toNat_natCast] at HR
    rw [hE] at HBox HWq x3 C
    obtain ⟨N, hNe⟩ : ∃ N, E + b.outer.length = N := ⟨_, rfl⟩
    rw [hNe] at HI hN2
    have hEN : E ≤ N := by omega
    have hlen := sel_len (idleP b) N
    rw [HI.out] at C
    obtain ⟨zs, hzs⟩ : ∃ zs, sel (idleP b) N = zs := ⟨_, rfl⟩
    have HZ := Lib.hid hzs
    have hasc := sel_asc (idleP b) N
    rw [hzs] at C hasc hlen
    clear hq hVW hz hN hNe hzs
    try rw [hE]
    go_enter Try.func130, Try.ntmps130
    go_wp2_with fail
    rw [HWq.out]
    go_wp2_with fail
    refine C.mono ?_
    rintro e w1 ⟨v1, rfl, hr, hb⟩
    obtain ⟨Ai, ci, rfl, hsr, hq⟩ := hr
    have hb1 := HB0.out.trans (hb.mono HB0.out.size)
    have HBx1 := Lib.hid (HBox.out.below hb hWs)
    clear x0 x1 x2 x3 x4 x5 C hb
    rw [List.length_map] at hsr hq ⊢
    have hci : zs.length ≤ ci ∧ (Ai = none → ci = 0) := by
      rcases hq with ⟨e1, e2, e3⟩ | ⟨g, f, e1, _, _, e4, _⟩
      · exact ⟨by simp at e3; simp [e3], fun _ => e2⟩
      · exact ⟨e4, fun e => by rw [e1] at e; cases e⟩
    obtain ⟨m, hm⟩ : ∃ m, zs.length = m := ⟨_, rfl⟩
    rw [hm] at hsr hlen hci ⊢
    have hI : IntsAt w1 w1.heap.size Ai m zs := hsr
    have CB := bins_any Ai m ci zs E w1 _ hI (by omega) hasc
    have HII := Lib.hid hI
    have HM := Lib.hid hm
    obtain ⟨x0, x1, x2, x3, x4, x5⟩ := HBx1.out.get
    clear hq hsr hI hm hasc
    go_wp2_with fail
    refine CB.mono ?_
    rintro e w2 ⟨⟨p, q, rfl, hp⟩, hb⟩
    have hb2 := hb1.trans (hb.mono hb1.size)
    have hpm : p ≤ m := by have := hp.1; have := HM.out; omega
    rw [← HZ.out] at hp
    obtain ⟨e1, e2⟩ := sel_pos_at hEN hp
    rw [HZ.out] at e2
    have HP := Lib.hid e2
    have HI2 := Lib.hid ((HII.out.below hb).wide hb.size)
    obtain ⟨hc1, hc2⟩ := hci
    clear hp e1 e2 hb x0 x1 x2 x3 x4 x5
    go_wp2_with fail
    go_ret2
    refine ⟨⟨Ai, p, ci, rfl, ?_⟩, hb2⟩
    rw [HR.out, ← HP.out]
    exact ints_take HI2.out hpm

set_option maxRecDepth 20000 in
set_option maxHeartbeats 1600000 in
theorem iLn_any (A : Option Addr) (n c : Nat) (cs : List Ctl) (v : Value) (b : Big) (w : World) (hC : CtlsAt w w.heap.size A n cs) (hv : BigAt w w.heap.size v b) (hn : n ≤ 1048576) (hs : ∀ c ∈ cs, c.name.size ≤ 1048576) (hS : BigS b) (hw : BigW b) :
    Calls Try.prog 64 #[.slice A n c, v] w (Post (bigB cs b && leanQ b) w) := by
  obtain ⟨A1, n1, c1, A2, n2, c2, A4, n4, c4, A5, n5, c5, rfl, h1, h2, h4, h5⟩ := hv
  have HBox : Hid (BoxAt (w.alloc (.cells #[.int .i64 b.roots, .slice A1 n1 c1, .slice A2 n2 c2, .int .i64 b.edges, .slice A4 n4 c4, .slice A5 n5 c5] 39)) w.heap.size 39 (.int .i64 b.roots) (.slice A1 n1 c1) (.slice A2 n2 c2) (.int .i64 b.edges) (.slice A4 n4 c4) (.slice A5 n5 c5)) := Lib.hid (six_new w _ _ _ _ _ _ _)
  have HB0 := Lib.hid ((Below.refl w.heap.size w).alloc (Nat.le_refl _) (.cells #[.int .i64 b.roots, .slice A1 n1 c1, .slice A2 n2 c2, .int .i64 b.edges, .slice A4 n4 c4, .slice A5 n5 c5] 39))
  obtain ⟨W, hW⟩ : ∃ W, w.alloc (.cells #[.int .i64 b.roots, .slice A1 n1 c1, .slice A2 n2 c2, .int .i64 b.edges, .slice A4 n4 c4, .slice A5 n5 c5] 39) = W := ⟨_, rfl⟩
  have hWz : W.heap.size = w.heap.size + 1 := by rw [← hW]; simp
  rw [hW] at HBox HB0
  have HWq := Lib.hid hW
  have hWs : w.heap.size < W.heap.size := by omega
  have hVW : BigAt W W.heap.size (.agg #[.int .i64 b.roots, .slice A1 n1 c1, .slice A2 n2 c2, .int .i64 b.edges, .slice A4 n4 c4, .slice A5 n5 c5]) b := BigAt.wide (BigAt.below ⟨_, _, _, _, _, _, _, _, _, _, _, _, rfl, h1, h2, h4, h5⟩ HB0.out) HB0.out.size
  clear hW hWz
  have C := ide_any A n c cs _ b W ((hC.below HB0.out).wide HB0.out.size) hVW hn hs hS hw
  obtain ⟨x0, x1, x2, x3, x4, x5⟩ := HBox.out.get
  have HR : Hid (bigB cs b = true → (bigB cs b && leanQ b) = decide ((ieR cs b).length = 0)) := Lib.hid (fun h => by rw [ieR_yes h, h]; rfl)
  obtain ⟨zs, hzs⟩ : ∃ zs, ieR cs b = zs := ⟨_, rfl⟩
  rw [hzs] at C HR
  obtain ⟨q, hq⟩ : ∃ q, bigB cs b = q := ⟨_, rfl⟩
  rw [hq] at C HR ⊢
  clear hq hzs hVW
  go_enter Try.func64, Try.ntmps64
  go_wp2_with fail
  rw [HWq.out]
  go_wp2_with fail
  refine C.mono ?_
  rintro e w1 ⟨⟨Ai, m, ci, rfl, hi⟩, hb⟩
  have hb1 := HB0.out.trans (hb.mono HB0.out.size)
  have HL := Lib.hid hi.len
  clear x0 x1 x2 x3 x4 x5 C hb hi
  cases q with
  | false =>
    go_wp2_with fail
    go_ret
    exact ⟨rfl, hb1⟩
  | true =>
    have hR := HR.out rfl
    rw [HL.out] at hR
    have HRR := Lib.hid hR
    clear hR HR
    by_cases h0 : m = 0
    · subst h0
      go_wp2_with fail
      go_ret
      exact ⟨by rw [HRR.out]; rfl, hb1⟩
    · have h0' : ¬ (m : Int) = 0 := by omega
      go_wp2_with fail
      go_ret
      exact ⟨by rw [HRR.out, decide_eq_false h0]; simp; omega, hb1⟩
set_option maxRecDepth 20000 in
set_option maxHeartbeats 1600000 in
theorem sLn_any (A : Option Addr) (n c : Nat) (cs : List Ctl) (v : Value) (b : Big) (w : World) (hC : CtlsAt w w.heap.size A n cs) (hv : BigAt w w.heap.size v b) (hn : n ≤ 1048576) (hs : ∀ c ∈ cs, c.name.size ≤ 1048576) (hS : BigS b) (hw : BigW b) :
    Calls Try.prog 63 #[.slice A n c, v] w (Post (bigB cs b && leanQ b) w) := by
  obtain ⟨A1, n1, c1, A2, n2, c2, A4, n4, c4, A5, n5, c5, rfl, h1, h2, h4, h5⟩ := hv
  have HBox : Hid (BoxAt (w.alloc (.cells #[.int .i64 b.roots, .slice A1 n1 c1, .slice A2 n2 c2, .int .i64 b.edges, .slice A4 n4 c4, .slice A5 n5 c5] 39)) w.heap.size 39 (.int .i64 b.roots) (.slice A1 n1 c1) (.slice A2 n2 c2) (.int .i64 b.edges) (.slice A4 n4 c4) (.slice A5 n5 c5)) := Lib.hid (six_new w _ _ _ _ _ _ _)
  have HB0 := Lib.hid ((Below.refl w.heap.size w).alloc (Nat.le_refl _) (.cells #[.int .i64 b.roots, .slice A1 n1 c1, .slice A2 n2 c2, .int .i64 b.edges, .slice A4 n4 c4, .slice A5 n5 c5] 39))
  obtain ⟨W, hW⟩ : ∃ W, w.alloc (.cells #[.int .i64 b.roots, .slice A1 n1 c1, .slice A2 n2 c2, .int .i64 b.edges, .slice A4 n4 c4, .slice A5 n5 c5] 39) = W := ⟨_, rfl⟩
  have hWz : W.heap.size = w.heap.size + 1 := by rw [← hW]; simp
  rw [hW] at HBox HB0
  have HWq := Lib.hid hW
  have hWs : w.heap.size < W.heap.size := by omega
  have hVW : BigAt W W.heap.size (.agg #[.int .i64 b.roots, .slice A1 n1 c1, .slice A2 n2 c2, .int .i64 b.edges, .slice A4 n4 c4, .slice A5 n5 c5]) b := BigAt.wide (BigAt.below ⟨_, _, _, _, _, _, _, _, _, _, _, _, rfl, h1, h2, h4, h5⟩ HB0.out) HB0.out.size
  clear hW hWz
  have C := l2Good_any A n c cs _ b W ((hC.below HB0.out).wide HB0.out.size) hVW hn hs hS hw
  obtain ⟨x0, x1, x2, x3, x4, x5⟩ := HBox.out.get
  obtain ⟨r, hr⟩ : ∃ r, leanQ b = r := ⟨_, rfl⟩
  have CP := Lib.hid (fun (hg : bigB cs b = true) (w2 : World) (hb2 : Below w.heap.size w w2) => hr ▸ sLn_leaf A1 A2 A4 A5 n1 n2 n4 n5 c1 c2 c4 c5 cs b w w2 h1 h5 hb2 hg)
  rw [hr]
  cases hq : bigB cs b with
  | false =>
    rw [hq] at C
    clear hq hr CP hVW
    go_enter Try.func63, Try.ntmps63
    go_wp2_with fail
    rw [HWq.out]
    go_wp2_with fail
    refine C.mono ?_
    rintro e w1 ⟨rfl, hb⟩
    have hb1 := HB0.out.trans (hb.mono HB0.out.size)
    clear x0 x1 x2 x3 x4 x5 C hb
    go_wp2_with fail
    go_ret
    exact ⟨rfl, hb1⟩
  | true =>
    rw [hq] at C
    have HQ := Lib.hid hq
    clear hq hr hVW
    go_enter Try.func63, Try.ntmps63
    go_wp2_with fail
    rw [HWq.out]
    go_wp2_with fail
    refine C.mono ?_
    rintro e w1 ⟨rfl, hb⟩
    have hb1 := HB0.out.trans (hb.mono HB0.out.size)
    have HBx1 := HBox.out.below hb hWs
    clear x0 x1 x2 x3 x4 x5 C hb
    obtain ⟨x0, x1, x2, x3, x4, x5⟩ := HBx1.get
    clear HBx1
    go_wp2_with fail
    refine (CP.out HQ.out w1 hb1).mono ?_
    rintro e w2 ⟨rfl, hb2⟩
    have hb3 := hb1.trans (hb2.mono hb1.size)
    clear hb2 x0 x1 x2 x3 x4 x5
    cases r with
    | false =>
      go_wp2_with fail
      go_ret
      exact ⟨rfl, hb3⟩
    | true =>
      go_wp2_with fail
      go_ret
      exact ⟨rfl, hb3⟩

end Go.Proofs.Ytifialdkjnmfoaa.ln
