/- Steps from a state: spec.l10From, impl.stepsFrom. -/
import Derived.Test.YtlpgldejmdiceaaSyl
namespace Go.Proofs.Ytlpgldejmdiceaa.syt
open kit bg sg opn strs only hb sig isig un over gn nm inn ht gd im pt marks eqs hc hi hw hn rs br bm bw cf lf ib isa lawb lw cl bgs cz syx sya syh syi syc syg syl
open Go.RowKit
set_option linter.unusedVariables false
set_option linter.unusedSimpArgs false

/-- the cells of a list of triples, in order -/
def tcs (ts : List Tri) : List Value := ts.flatMap (fun t => [.int .i64 t.1, .int .i64 t.2.1, .int .i64 t.2.2])
theorem tcs_len (ts : List Tri) : (tcs ts).length = ts.length * 3 := by
  induction ts with
  | nil => rfl
  | cons t ts ih => unfold tcs at *; rw [List.flatMap_cons, List.length_append, ih]; simp; omega
theorem tcs_snoc (ts : List Tri) (t : Tri) : tcs (ts ++ [t]) = tcs ts ++ [.int .i64 t.1, .int .i64 t.2.1, .int .i64 t.2.2] := by unfold tcs; rw [List.flatMap_append]; simp
theorem tcs_get : ∀ {ts : List Tri} {k : Nat} {t : Tri}, ts[k]? = some t → (tcs ts)[k * 3]? = some (.int .i64 t.1) ∧ (tcs ts)[k * 3 + 1]? = some (.int .i64 t.2.1) ∧ (tcs ts)[k * 3 + 2]? = some (.int .i64 t.2.2)
  | [], k, t, h => by simp at h
  | q :: ts, 0, t, h => by
    simp at h
    subst h
    exact ⟨rfl, rfl, rfl⟩
  | q :: ts, k + 1, t, h => by
    have ih := tcs_get (ts := ts) (k := k) (t := t) (by simpa using h)
    have e : tcs (q :: ts) = .int .i64 q.1 :: .int .i64 q.2.1 :: .int .i64 q.2.2 :: tcs ts := rfl
    rw [e, show (k + 1) * 3 = k * 3 + 1 + 1 + 1 by omega]
    exact ⟨by simpa using ih.1, by simpa using ih.2.1, by simpa using ih.2.2⟩
/-- a list of triples that grows in memory of its own -/
def OwnT (w : World) (lo : Nat) (v : Value) (ts : List Tri) : Prop := w.ownsRow lo 76 3 v ts.length (tcs ts) ∧ v ≠ .slice none 0 0
theorem OwnT.new (w : World) : OwnT (w.alloc (.cells #[] 76)) w.heap.size (.slice (some ⟨w.heap.size, 0, none⟩) 0 0) [] :=
  ⟨by
    have := World.ownsRow_made (base := w.heap.size) (e := 76) (size := 3) w #[] 0 (Nat.le_refl _) (by unfold maxLen; omega) (by simp)
    simpa [tcs] using this, by simp⟩
theorem OwnT.at {w : World} {lo : Nat} {v : Value} {ts : List Tri} (h : OwnT w lo v ts) : ∃ g c, v = .slice (some ⟨g, 0, none⟩) ts.length c ∧ lo ≤ g ∧ TriAt w w.heap.size (some ⟨g, 0, none⟩) ts.length ts := by
  obtain ⟨⟨h1, h2⟩, hn⟩ := h
  rcases h2 with ⟨e, _⟩ | ⟨g, cap, cur, rfl, hb, hh, hc, hm, hs, ht⟩
  · exact absurd e hn
  · have hrow : w.rowIs g 76 (cap * 3) (fun i => (cur[i]?).getD undef) := ⟨cur, hh, by simpa using hs, fun i hi => by
      show cur[i]? = some ((cur[i]?).getD undef)
      rw [Array.getElem?_eq_getElem (show i < cur.size by omega)]; rfl⟩
    have hat : ∀ (i : Nat) u, i < ts.length * 3 → (tcs ts)[i]? = some u → (cur[i]?).getD undef = u := fun i u hi hu => by
      rw [← ht, List.getElem?_take_of_lt hi] at hu
      have hu2 : cur[i]? = some u := by simpa using hu
      rw [hu2]; rfl
    refine ⟨g, cap, rfl, hb, rfl, fun _ => ⟨g, 0, rfl, hrow.lt, fun k t hk => ?_⟩⟩
    have hkl : k < ts.length := (List.getElem?_eq_some_iff.1 hk).1
    obtain ⟨e1, e2, e3⟩ := tcs_get hk
    rw [Nat.zero_add]
    exact ⟨(hrow.cell (by omega)).trans (congrArg some (hat _ _ (by omega) e1)), (hrow.cell (by omega)).trans (congrArg some (hat _ _ (by omega) e2)), (hrow.cell (by omega)).trans (congrArg some (hat _ _ (by omega) e3))⟩
theorem cell_three_new (w : World) (a b c : Value) (t : TypeId) : ∀ (j : Nat) u, [a, b, c][j]? = some u → (w.alloc (.cells #[a, b, c] t)).cell? ((⟨w.heap.size, 0, none⟩ : Addr).add j) = some u := by
  have hr := row_new w #[a, b, c] t 3 rfl
  intro j u hu
  match j, hu with
  | 0, hu =>
    injection hu with hu
    subst hu
    exact hr.cell (show 0 < 3 by omega)
  | 1, hu =>
    injection hu with hu
    subst hu
    exact hr.cell (show 1 < 3 by omega)
  | 2, hu =>
    injection hu with hu
    subst hu
    exact hr.cell (show 2 < 3 by omega)
theorem out_snoc {ts : List Tri} {k : Nat} {t : Tri} {z : Int} (h : ts[k]? = some t) (hz : t.1 = z) : outOf (ts.take (k + 1)) z = outOf (ts.take k) z ++ [t] := by
  have e : ts.take (k + 1) = ts.take k ++ [t] := by
    obtain ⟨hl, he⟩ := List.getElem?_eq_some_iff.1 h
    rw [List.take_add_one, h]; rfl
  unfold outOf
  rw [e, List.filter_append]
  simp [hz]
theorem out_same {ts : List Tri} {k : Nat} {t : Tri} {z : Int} (h : ts[k]? = some t) (hz : ¬ t.1 = z) : outOf (ts.take (k + 1)) z = outOf (ts.take k) z := by
  have e : ts.take (k + 1) = ts.take k ++ [t] := by
    rw [List.take_add_one, h]; rfl
  unfold outOf
  rw [e, List.filter_append]
  simp [hz]
theorem out_len (ts : List Tri) (z : Int) : (outOf ts z).length ≤ ts.length := List.length_filter_le _ _

set_option maxRecDepth 20000 in
set_option maxHeartbeats 3200000 in
theorem lfrom_any (A1 A2 : Option Addr) (n1 c1 n2 c2 : Nat) (ts : List Tri) (z : Int) (w : World) (h : TriAt w w.heap.size A2 n2 ts) (hn2 : n2 ≤ 1048576) :
    Calls Try.prog 68 #[.agg #[.slice A1 n1 c1, .slice A2 n2 c2], .int .i64 z] w fun e w' => ∃ g c, e = .returned (.slice (some ⟨g, 0, none⟩) (outOf ts z).length c) ∧ TriAt w' w'.heap.size (some ⟨g, 0, none⟩) (outOf ts z).length (outOf ts z) ∧ Below w.heap.size w w' := by
  have HL := Lib.hid h.1
  have hb0 := (Below.refl w.heap.size w).alloc (Nat.le_refl _) (.cells #[.slice A1 n1 c1, .slice A2 n2 c2] 32)
  have hBx := BoxN.new w #[.slice A1 n1 c1, .slice A2 n2 c2] 32
  have hsz : (w.alloc (.cells #[.slice A1 n1 c1, .slice A2 n2 c2] 32)).heap.size = w.heap.size + 1 := by simp
  have hOn := OwnT.new (w.alloc (.cells #[.slice A1 n1 c1, .slice A2 n2 c2] 32))
  have hb1 := hb0.alloc hb0.size (.cells #[] 76)
  have hBx1 := hBx.on ((Below.refl _ _).alloc (Nat.le_refl _) (.cells #[] 76))
  rw [hsz] at hOn
  obtain ⟨W, hW⟩ : ∃ W, (w.alloc (.cells #[.slice A1 n1 c1, .slice A2 n2 c2] 32)).alloc (.cells #[] 76) = W := ⟨_, rfl⟩
  have hWz : W.heap.size = w.heap.size + 2 := by rw [← hW]; simp
  rw [hW] at hOn hb1 hBx1
  have HB1 := Lib.hid hb1
  have HBx := Lib.hid hBx1
  have HOn := Lib.hid hOn
  have HWq := Lib.hid hW
  have HWz := Lib.hid hWz
  have HT := Lib.hid h
  obtain ⟨i0, hi, hz0, hz1, hz2⟩ := info_parts tri_info
  have HI := Lib.hid (And.intro hi (And.intro hz0 (And.intro hz1 hz2)))
  clear hW hb0 hBx hb1 hBx1 hOn h hsz hWz hi hz0 hz1 hz2
  go_enter Try.func68, Try.ntmps68
  go_wp2_with fail
  rw [HWq.out]
  go_loopw [5, 6] (fun v i wr => ∃ k : Nat, k ≤ n2 ∧ i = .int .i64 k ∧ OwnT wr (w.heap.size + 1) v (outOf (ts.take k) z) ∧ Below (w.heap.size + 1) W wr) (fun _ i _ => n2 - (intOf i).toNat)
  case atStart => exact ⟨0, Nat.zero_le _, rfl, HOn.out, Below.refl _ _⟩
  case round =>
    obtain ⟨k, hk, rfl, ⟨hown, hnn⟩, hbel⟩ := hrel
    have hsz := hbel.size
    rw [HWz.out] at hsz
    have hbw : Below w.heap.size w wr := HB1.out.trans (hbel.mono (by omega))
    obtain ⟨x0, x1⟩ := box2 (HBx.out.below hbel (by omega))
    by_cases hlt : k < n2
    · obtain ⟨b, off, t, rfl, hbb, hx, e0, e1, e2⟩ := HT.out.get hlt
      have d0 := (hbw.cell (p := ⟨b, off + k * 3, none⟩) hbb).trans e0
      have d1 := (hbw.cell (p := ⟨b, off + k * 3 + 1, none⟩) hbb).trans e1
      have d2 := (hbw.cell (p := ⟨b, off + k * 3 + 2, none⟩) hbb).trans e2
      by_cases hz : t.1 = z
      · have hsel := out_snoc hx hz
        have hlen := out_len (ts.take k) z
        rw [List.length_take] at hlen
        have HN := Lib.hid hnn
        obtain ⟨P, hP⟩ : ∃ P, outOf (ts.take k) z = P := ⟨_, rfl⟩
        rw [hP] at hown hlen hsel
        have HS := Lib.hid hsel
        obtain ⟨q, hq⟩ : ∃ q, P.length = q := ⟨_, rfl⟩
        rw [hq] at hown hlen
        have HQ := Lib.hid hq
        obtain ⟨D, hD⟩ : ∃ D, tcs P = D := ⟨_, rfl⟩
        rw [hD] at hown
        have HD := Lib.hid hD
        subst hz
        clear hnn hsel hP hq hD hx e0 e1 e2
        go_wp2_with (at_builtin; refine wpList_append_own _ rfl _ _ 23 rfl (w.heap.size + 1) 76 i0 (.agg #[.int .i64 0, .int .i64 0, .int .i64 0]) 3 24 Try.underlying23 HI.out.1 HI.out.2.1 HI.out.2.2.1 HI.out.2.2.2 rfl (by decide) _ _ _ rfl (hown.alloc _) ⟨wr.heap.size, 0, none⟩ 1 1 [.int .i64 t.1, .int .i64 t.2.1, .int .i64 t.2.2] rfl rfl (cell_three_new _ _ _ _ _) (fun x hx => by simp at hx; rcases hx with rfl | rfl | rfl <;> rfl) (by unfold maxLen; omega) (by omega) (by simp; omega) ?_; intro v1 w1 hown1 hgrow1 hnil1)
        have hb1 := Lib.hid ((hbel.alloc (by omega) (.cells #[.int .i64 t.1, .int .i64 t.2.1, .int .i64 t.2.2] 76)).grown hgrow1 (by simp; omega) (fun j hj => (hown.lt j hj).1))
        have HOwn := Lib.hid hown1
        have HN1 : Hid (v1 ≠ .slice none 0 0) := fun h => HN.out (hnil1.1 h).1
        clear hown1 hgrow1 hnil1 hown
        go_wp2_with fail
        go_roundw
        case rel => exact ⟨k + 1, by omega, by go_num, ⟨by
          have := HOwn.out
          rw [HS.out, tcs_snoc, HD.out, List.length_append, List.length_singleton, HQ.out]
          exact this, HN1.out⟩, hb1.out⟩
        case measure => simp [intOf]; omega
      · have HO := Lib.hid (show OwnT wr (w.heap.size + 1) _ (outOf (ts.take (k + 1)) z) from by rw [out_same hx hz]; exact ⟨hown, hnn⟩)
        have HB := Lib.hid hbel
        clear hown hnn hx
        go_wp2_with fail
        go_roundw
        case rel => exact ⟨k + 1, by omega, by go_num, HO.out, HB.out⟩
        case measure => simp [intOf]; omega
    · obtain rfl : k = n2 := by omega
      have hall : ts.take k = ts := List.take_of_length_le (by have := HL.out; omega)
      rw [hall] at hown
      obtain ⟨g, c, rfl, hg, hat⟩ := OwnT.at ⟨hown, hnn⟩
      have HA := Lib.hid hat
      clear hown hnn hat hall
      go_wp2_with fail
      go_ret
      exact ⟨g, c, rfl, HA.out, hbw⟩

/-! ### impl.stepsFrom -/
set_option maxRecDepth 20000 in
theorem sf1_any (t : Tri) (z : Int) (w : World) : Calls Try.prog 111 #[triV t, .int .i64 z] w fun e w' => e = .returned (.int .i64 (cmpI t.1 z)) ∧ Below w.heap.size w w' := by
  unfold triV
  have hb0 := (Below.refl w.heap.size w).alloc (Nat.le_refl _) (.cells #[.int .i64 t.1, .int .i64 t.2.1, .int .i64 t.2.2] 76)
  obtain ⟨W, hW⟩ : ∃ W, w.alloc (.cells #[.int .i64 t.1, .int .i64 t.2.1, .int .i64 t.2.2] 76) = W := ⟨_, rfl⟩
  rw [hW] at hb0
  have HWq := Lib.hid hW
  have HB0 := Lib.hid hb0
  obtain ⟨y0, y1, y2⟩ := box3 (BoxN.new w #[.int .i64 t.1, .int .i64 t.2.1, .int .i64 t.2.2] 76)
  clear hW hb0
  go_enter Try.func111, Try.ntmps111
  go_wp2_with fail
  refine (cmpI_any _ _ _).mono ?_
  rintro e w1 ⟨rfl, rfl⟩
  go_wp2_with fail
  go_ret
  exact ⟨rfl, by rw [HWq.out]; exact HB0.out⟩

def cutI (ts : List Tri) (z : Int) (lo hi : Nat) : Prop := (∀ (k : Nat) a, k < lo → ts[k]? = some a → a.1 < z) ∧ ∀ (k : Nat) a, hi ≤ k → ts[k]? = some a → ¬ a.1 < z
theorem pwf_at {ts : List Tri} (hp : ts.Pairwise (fun a b => a.1 ≤ b.1)) {i j : Nat} {a b : Tri} (h : i < j) (ha : ts[i]? = some a) (hb : ts[j]? = some b) : a.1 ≤ b.1 := by
  obtain ⟨h1, e1⟩ := List.getElem?_eq_some_iff.1 ha
  obtain ⟨h2, e2⟩ := List.getElem?_eq_some_iff.1 hb
  rw [← e1, ← e2]
  exact List.pairwise_iff_getElem.1 hp i j h1 h2 h
theorem cutI_lo {ts : List Tri} (hp : ts.Pairwise (fun a b => a.1 ≤ b.1)) {z : Int} {y : Tri} {lo hi m : Nat} (h : cutI ts z lo hi) (hy : ts[m]? = some y) (hl : y.1 < z) : cutI ts z (m + 1) hi := by
  refine ⟨fun k a hk ha => ?_, h.2⟩
  by_cases e : k = m
  · subst e; rw [hy] at ha; injection ha with ha; rw [← ha]; exact hl
  · have := pwf_at hp (show k < m by omega) ha hy
    omega
theorem cutI_hi {ts : List Tri} (hp : ts.Pairwise (fun a b => a.1 ≤ b.1)) {z : Int} {y : Tri} {lo hi m : Nat} (h : cutI ts z lo hi) (hy : ts[m]? = some y) (hl : ¬ y.1 < z) : cutI ts z lo m := by
  refine ⟨h.1, fun k a hk ha => ?_⟩
  by_cases e : k = m
  · subst e; rw [hy] at ha; injection ha with ha; rw [← ha]; exact hl
  · have := pwf_at hp (show m < k by omega) hy ha
    omega
theorem cutI_cut {ts : List Tri} {z : Int} {m : Nat} (h : cutI ts z m m) (hm : m ≤ ts.length) : cut (fromLt z) ts = m := by
  unfold cut
  refine takeWhile_len ts m hm (fun k x hk hx => decide_eq_true (h.1 k x hk hx)) (fun x hx => decide_eq_false (h.2 m x (Nat.le_refl _) hx))

set_option maxRecDepth 20000 in
set_option maxHeartbeats 6400000 in
theorem bsi_any (A : Option Addr) (n c : Nat) (ts : List Tri) (z : Int) (w : World) (h : TriAt w w.heap.size A n ts) (hn : n ≤ 1048576) (hp : ts.Pairwise (fun a b => a.1 ≤ b.1)) :
    Calls Try.prog 113 #[.slice A n c, .int .i64 z, .func (.func 111) #[] #[]] w fun e w' => (∃ q : Bool, e = .returned (.tuple #[.int .i64 (cut (fromLt z) ts : Nat), .bool q])) ∧ Below w.heap.size w w' := by
  have HL := Lib.hid h.1
  have HP := Lib.hid hp
  have HT := Lib.hid h
  obtain ⟨M, hM⟩ : ∃ M, cut (fromLt z) ts = M := ⟨_, rfl⟩
  rw [hM]
  have HM := Lib.hid hM
  clear h hp hM
  go_enter Try.func113, Try.ntmps113
  go_wp2_with fail
  go_loopg [9, 10, 11] n (fun g s9 s10 _ wr => ∃ lo hi : Nat, s9 = .int .i64 lo ∧ s10 = .int .i64 hi ∧ lo ≤ hi ∧ hi ≤ n ∧ hi - lo ≤ g ∧ Below w.heap.size w wr ∧ Hid (cutI ts z lo hi))
  case atStart => exact ⟨0, n, rfl, rfl, Nat.zero_le _, Nat.le_refl _, by omega, Below.refl _ _, Lib.hid ⟨fun k a hk => absurd hk (Nat.not_lt_zero _), fun k a h1 h2 => by have := (List.getElem?_eq_some_iff.1 h2).1; have := HL.out; omega⟩⟩
  case round =>
    obtain ⟨lo, hi, rfl, rfl, hlh, hin, hg, hbel, I⟩ := hrel
    have HBel := Lib.hid hbel
    by_cases hlt : lo < hi
    · obtain ⟨b, off, y, rfl, hb, hy, e0, e1, e2⟩ := (HT.out.below hbel).get (show (lo + hi) / 2 < n by omega)
      have Y := Lib.hid hy
      have C := sf1_any y z wr
      unfold triV at C
      clear hy hbel
      by_cases hl : y.1 < z
      · have hz : cmpI y.1 z < 0 := cmpI_lt.2 hl
        have HLt := Lib.hid hl
        obtain ⟨q, hq⟩ : ∃ q, cmpI y.1 z = q := ⟨_, rfl⟩
        rw [hq] at hz C
        clear hl hq
        go_wp2_with (first | (go_at_call 111; refine C.mono ?_; rintro e w9 ⟨rfl, hb9⟩) | (go_at_fn 111; refine C.mono ?_; rintro e w9 ⟨rfl, hb9⟩))
        have HB9 := Lib.hid (HBel.out.trans (hb9.mono HBel.out.size))
        clear C hb9
        try go_wp2_with fail
        go_roundg (hi - ((lo + hi) / 2 + 1))
        case measure => omega
        case rel => exact ⟨(lo + hi) / 2 + 1, hi, by rw [show ((lo : Int) + (hi : Int)) / 2 + 1 = (((lo + hi) / 2 + 1 : Nat) : Int) by omega], rfl, by omega, hin, Nat.le_refl _, HB9.out, Lib.hid (cutI_lo HP.out I.out Y.out HLt.out)⟩
      · have hz : ¬ cmpI y.1 z < 0 := fun h => hl (cmpI_lt.1 h)
        have HLt := Lib.hid hl
        obtain ⟨q, hq⟩ : ∃ q, cmpI y.1 z = q := ⟨_, rfl⟩
        rw [hq] at hz C
        clear hl hq
        go_wp2_with (first | (go_at_call 111; refine C.mono ?_; rintro e w9 ⟨rfl, hb9⟩) | (go_at_fn 111; refine C.mono ?_; rintro e w9 ⟨rfl, hb9⟩))
        have HB9 := Lib.hid (HBel.out.trans (hb9.mono HBel.out.size))
        clear C hb9
        try go_wp2_with fail
        go_roundg ((lo + hi) / 2 - lo)
        case measure => omega
        case rel => exact ⟨lo, (lo + hi) / 2, rfl, by rw [show ((lo : Int) + (hi : Int)) / 2 = (((lo + hi) / 2 : Nat) : Int) by omega], by omega, by omega, Nat.le_refl _, HB9.out, Lib.hid (cutI_hi HP.out I.out Y.out (by have := HLt.out; omega))⟩
    · have hhl : hi = lo := by omega
      subst hhl
      have HC : Hid (M = hi) := Lib.hid (by rw [← HM.out]; exact cutI_cut I.out (by rw [HL.out]; exact hin))
      by_cases hn2 : hi < n
      · obtain ⟨b, off, y, rfl, hb, hy, e0, e1, e2⟩ := (HT.out.below hbel).get hn2
        have C := sf1_any y z wr
        unfold triV at C
        clear hy hbel
        go_wp2_with (first | (go_at_call 111; refine C.mono ?_; rintro e w9 ⟨rfl, hb9⟩) | (go_at_fn 111; refine C.mono ?_; rintro e w9 ⟨rfl, hb9⟩))
        have HB9 := Lib.hid (HBel.out.trans (hb9.mono HBel.out.size))
        clear C hb9
        try go_wp2_with fail
        refine bodyPost_ret (results_tmp2 rfl _ _ _) rfl ?_
        exact ⟨⟨_, by rw [HC.out]; rfl⟩, HB9.out⟩
      · go_wp2_with fail
        refine bodyPost_ret (results_tmp2 rfl _ _ _) rfl ?_
        exact ⟨⟨_, by rw [HC.out]; rfl⟩, HBel.out⟩

theorem tri_cut {w : World} {B g n : Nat} {ts : List Tri} (h : TriAt w B (some ⟨g, 0, none⟩) n ts) (s e : Nat) (hse : s ≤ e) (hen : e ≤ n) : TriAt w B (some ⟨g, s * 3, none⟩) (e - s) ((ts.drop s).take (e - s)) := by
  refine ⟨by have := h.1; simp; omega, fun hn => ?_⟩
  obtain ⟨g', off', e', hg, hc⟩ := h.2 (by omega)
  injection e' with e'
  injection e' with eg eo
  subst eg eo
  refine ⟨g, s * 3, rfl, hg, fun k t hk => ?_⟩
  have hkl := (List.getElem?_eq_some_iff.1 hk).1
  rw [List.length_take] at hkl
  rw [List.getElem?_take_of_lt (by omega), List.getElem?_drop] at hk
  obtain ⟨a0, a1, a2⟩ := hc (s + k) t hk
  rw [show 0 + (s + k) * 3 = s * 3 + k * 3 by omega] at a0 a1 a2
  exact ⟨a0, a1, a2⟩
theorem tri_cut0 {w : World} {B : Nat} {A : Option Addr} {ts : List Tri} (h : ts = []) : TriAt w B A 0 ts := by
  subst h
  exact ⟨rfl, fun h => absurd h (by omega)⟩

set_option maxRecDepth 20000 in
set_option maxHeartbeats 3200000 in
theorem sfrom_any (A1 : Option Addr) (g2 n1 c1 n2 : Nat) (ts : List Tri) (z : Int) (w : World) (h : TriAt w w.heap.size (some ⟨g2, 0, none⟩) n2 ts) (hn2 : n2 ≤ 1048576) (hp : ts.Pairwise (fun a b => a.1 ≤ b.1)) (hz : -1048576 ≤ z ∧ z ≤ 1048576) :
    Calls Try.prog 71 #[.agg #[.slice A1 n1 c1, .slice (some ⟨g2, 0, none⟩) n2 n2], .int .i64 z] w fun e w' => ∃ off c, e = .returned (.slice (some ⟨g2, off, none⟩) (outOf ts z).length c) ∧ TriAt w' w'.heap.size (some ⟨g2, off, none⟩) (outOf ts z).length (outOf ts z) ∧ Below w.heap.size w w' := by
  have hb0 := (Below.refl w.heap.size w).alloc (Nat.le_refl _) (.cells #[.slice A1 n1 c1, .slice (some ⟨g2, 0, none⟩) n2 n2] 32)
  have hBx := BoxN.new w #[.slice A1 n1 c1, .slice (some ⟨g2, 0, none⟩) n2 n2] 32
  obtain ⟨W, hW⟩ : ∃ W, w.alloc (.cells #[.slice A1 n1 c1, .slice (some ⟨g2, 0, none⟩) n2 n2] 32) = W := ⟨_, rfl⟩
  rw [hW] at hBx hb0
  have HB0 := Lib.hid hb0
  have HBx := Lib.hid hBx
  have HWq := Lib.hid hW
  have hWs := hBx.lt
  have HT := Lib.hid ((h.below hb0).wide hb0.size)
  have HL := Lib.hid h.1
  obtain ⟨hc1, hc2⟩ := from_cut hp z
  have C1 := bsi_any (some ⟨g2, 0, none⟩) n2 n2 ts z W ((h.below hb0).wide hb0.size) hn2 hp
  have HC2 := Lib.hid (fun (Y : World) (hY : Below W.heap.size W Y) => bsi_any (some ⟨g2, 0, none⟩) n2 n2 ts (z + 1) Y ((HT.out.below hY).wide hY.size) hn2 hp)
  have hle := cut_le (fromLt (z + 1)) ts
  obtain ⟨s, hs⟩ : ∃ s, cut (fromLt z) ts = s := ⟨_, rfl⟩
  obtain ⟨e2, he2⟩ : ∃ s, cut (fromLt (z + 1)) ts = s := ⟨_, rfl⟩
  rw [hs] at C1 hc1 hc2
  rw [he2] at HC2 hc1 hc2 hle
  have hen : e2 ≤ n2 := by have := HL.out; omega
  have HCut := Lib.hid hc2
  have hz1 : IntKind.i64.wrap (z + 1) = z + 1 := IntWalk.i64_in _ (by omega)
  have hlO : (outOf ts z).length = e2 - s := by rw [← hc2]; simp; have := HL.out; omega
  rw [hlO]
  obtain ⟨x0, x1⟩ := box2 hBx
  clear hW hb0 hBx h hs he2 hc2 hlO hle
  go_enter Try.func71, Try.ntmps71
  go_wp2_with fail
  rw [HWq.out]
  go_wp2_with fail
  refine C1.mono ?_
  rintro e w1 ⟨⟨q1, rfl⟩, hb⟩
  have HB1 := Lib.hid hb
  clear C1 x0 x1 hb
  obtain ⟨x0, x1⟩ := box2 (HBx.out.below HB1.out hWs)
  have C2 := HC2.out w1 HB1.out
  go_wp2_with fail
  refine C2.mono ?_
  rintro e w2 ⟨⟨q2, rfl⟩, hb⟩
  have HB2 := Lib.hid (HB1.out.trans (hb.mono HB1.out.size))
  clear C2 x0 x1 hb
  obtain ⟨x0, x1⟩ := box2 (HBx.out.below HB2.out hWs)
  by_cases hcap : s = n2
  · obtain rfl : e2 = n2 := by omega
    subst hcap
    go_wp2_with fail
    go_ret
    refine ⟨_, _, by rw [Nat.sub_self]; rfl, ?_, HB0.out.trans (HB2.out.mono HB0.out.size)⟩
    rw [Nat.sub_self]
    exact tri_cut0 (by rw [← HCut.out, Nat.sub_self, List.take_zero])
  · have hlt : s < n2 := by omega
    go_wp2_with fail
    go_ret
    refine ⟨s * 3, _, rfl, ?_, HB0.out.trans (HB2.out.mono HB0.out.size)⟩
    rw [← HCut.out]
    exact tri_cut ((HT.out.below HB2.out).wide HB2.out.size) s e2 hc1 hen
end Go.Proofs.Ytlpgldejmdiceaa.syt
