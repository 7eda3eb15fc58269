/- The points of a link: spec.l2Ports, spec.l2Ends. -/
import Derived.Test.YtifialdkjnmfoabRs
import Derived.Test.YtifialdkjnmfoabPt
import Derived.Maps.AppendAt
namespace Go.Proofs.Ytifialdkjnmfoab.pts
open kit bg opn strs only hb sg sig isig un gd inn ht hi cf pt ib rs
open Go.RowKit
set_option linter.unusedVariables false

/-- the names of the first inner names that have a link -/
def ends (ws : List Wr) (z : Int) : Nat → List ByteArray
  | 0 => []
  | k + 1 => match ws[k]? with
    | some x => if x.link = z then ends ws z k ++ [x.name] else ends ws z k
    | none => ends ws z k
theorem ends_yes {ws : List Wr} {z : Int} {k : Nat} {x : Wr} (h : ws[k]? = some x) (hz : x.link = z) : ends ws z (k + 1) = ends ws z k ++ [x.name] := by
  rw [ends, h]
  show (if x.link = z then _ else _) = _
  rw [if_pos hz]
theorem ends_no {ws : List Wr} {z : Int} {k : Nat} {x : Wr} (h : ws[k]? = some x) (hz : ¬ x.link = z) : ends ws z (k + 1) = ends ws z k := by
  rw [ends, h]
  show (if x.link = z then _ else _) = _
  rw [if_neg hz]
theorem ends_len (ws : List Wr) (z : Int) : ∀ k, (ends ws z k).length ≤ k
  | 0 => Nat.le_refl _
  | k + 1 => by
    have := ends_len ws z k
    unfold ends
    split
    · split
      · rw [List.length_append, List.length_singleton]; omega
      · omega
    · omega
/-- the ports of a link among some -/
def onL (z : Int) (ps : List Port) : List Port := ps.filter fun p => decide (p.2.2 = z)
theorem onL_yes {z : Int} {ps : List Port} {p : Port} (h : p.2.2 = z) : onL z (ps ++ [p]) = onL z ps ++ [p] := by
  unfold onL
  rw [List.filter_append]
  simp [h]
theorem onL_no {z : Int} {ps : List Port} {p : Port} (h : ¬ p.2.2 = z) : onL z (ps ++ [p]) = onL z ps := by
  unfold onL
  rw [List.filter_append]
  simp [h]
theorem onL_len (z : Int) (ps : List Port) : (onL z ps).length ≤ ps.length := List.length_filter_le _ _
theorem prts_len (k : Nat) (ls : List Int) (m : Nat) : (prts k ls m).length = m := by unfold prts; simp
theorem prtsTo_len {ns : List Nd} {M : Nat} (h : ∀ x ∈ ns, x.links.length ≤ M) (k : Nat) : (prtsTo ns k).length ≤ k * M := by
  induction k with
  | zero => simp [prtsTo]
  | succ k ih =>
    rw [Nat.succ_mul]
    cases hx : ns[k]? with
    | none =>
      have : prtsTo ns (k + 1) = prtsTo ns k ++ [] := by rw [prtsTo, hx]
      rw [this, List.append_nil]; omega
    | some x =>
      rw [prtsTo_succ hx, List.length_append, prts_len]
      have := h x (List.mem_of_getElem? hx)
      omega
/-- ports as cells -/
def ptc (ps : List Port) : List Value := ps.flatMap fun p => [.int .i64 p.1, .int .i64 p.2.1]
theorem ptc_snoc (ps : List Port) (p : Port) : ptc (ps ++ [p]) = ptc ps ++ [.int .i64 p.1, .int .i64 p.2.1] := by unfold ptc; rw [List.flatMap_append]; simp
/-- a row of the call's own that holds these ports -/
def OwnsP (w : World) (B : Nat) (v : Value) (ps : List Port) : Prop := w.ownsRow B 112 2 v ps.length (ptc ps) ∧ v ≠ .slice none 0 0
theorem OwnsP.mono {w : World} {B B' : Nat} {v : Value} {ps : List Port} (h : OwnsP w B v ps) (hB : B' ≤ B) : OwnsP w B' v ps := by
  obtain ⟨⟨h1, h2⟩, hn⟩ := h
  refine ⟨⟨h1, ?_⟩, hn⟩
  rcases h2 with h | ⟨g, cap, cur, e, hb, r⟩
  · exact .inl h
  · exact .inr ⟨g, cap, cur, e, by omega, r⟩
theorem a2_info : (Try.prog.info? 112).map (fun i => (i.zero, i.size, i.bytes)) = some (some (.agg #[.int .i64 0, .int .i64 0]), 2, 16) := by kernel_rfl
theorem cell_two_new (w : World) (a b : Value) (t : TypeId) : ∀ (j : Nat) u, [a, b][j]? = some u → (w.alloc (.cells #[a, b] t)).cell? ((⟨w.heap.size, 0, none⟩ : Addr).add j) = some u := by
  have hr := row_new w #[a, b] t 2 rfl
  intro j u hu
  match j, hu with
  | 0, hu =>
    simp at hu
    subst hu
    exact (hr.cell (show 0 < 2 by omega) : _)
  | 1, hu =>
    simp at hu
    subst hu
    show (w.alloc _).cell? ⟨w.heap.size, 0 + 1, none⟩ = _
    exact (hr.cell (show 1 < 2 by omega) : _)
  | j + 2, hu => simp at hu

set_option maxRecDepth 20000 in
set_option maxHeartbeats 1600000 in
theorem ends_any (v0 v1 v2 v3 v4 : Value) (A5 : Option Addr) (n5 c5 : Nat) (ws : List Wr) (p : Int) (w0 w : World) (h : WrsAt w0 w0.heap.size A5 n5 ws) (hb0 : Below w0.heap.size w0 w) (hn : n5 ≤ 1048576) :
    Calls Try.prog 118 #[.agg #[v0, v1, v2, v3, v4, .slice A5 n5 c5], .int .i64 p] w (ColPost 9 ((ends ws p n5).map Value.string) w) := by
  obtain ⟨i0, hi, hz0, hz1, hz2⟩ := info_parts str_info
  have HI := Lib.hid (And.intro hi (And.intro hz0 (And.intro hz1 hz2)))
  have HBox := Lib.hid (six_new w v0 v1 v2 v3 v4 (.slice A5 n5 c5) 34)
  clear hi hz0 hz1 hz2
  go_enter Try.func118, Try.ntmps118
  go_wp2_with fail
  go_loopw [5, 6] (fun v i wr => ∃ k : Nat, k ≤ n5 ∧ i = .int .i64 k ∧ Owns wr (w.heap.size + 1) 9 v ((ends ws p k).map Value.string) ∧ Below (w.heap.size + 1) (w.alloc (.cells #[v0, v1, v2, v3, v4, .slice A5 n5 c5] 34)) wr) (fun _ i _ => n5 - (intOf i).toNat)
  case atStart =>
    exact ⟨0, Nat.zero_le _, rfl, ⟨by
      have := World.ownsRow_made (base := w.heap.size + 1) (e := 9) (size := 1) (w.alloc (.cells #[v0, v1, v2, v3, v4, .slice A5 n5 c5] 34)) #[] 0 (by simp) (by unfold maxLen; omega) (by simp)
      simpa [ends] using this, by simp⟩, (Below.refl _ _).alloc (by simp) _⟩
  case round =>
    obtain ⟨k, hk, rfl, ⟨hown, hnn⟩, hbel⟩ := hrel
    have hsz := hbel.size
    simp at hsz
    have hrow := HBox.out.of_block (hbel.block w.heap.size (by omega))
    obtain ⟨x0, x1, x2, x3, x4, x5⟩ := row6 hrow
    simp only [six] at x0 x1 x2 x3 x4 x5
    simp at x0 x1 x2 x3 x4 x5
    have hbw : Below w0.heap.size w0 wr := hb0.trans (((Below.refl w0.heap.size w).alloc hb0.size _).trans (hbel.mono (by have := hb0.size; omega)))
    clear hrow
    by_cases hlt : k < n5
    · obtain ⟨b, off, x, rfl, hbb, hx, c0, c1⟩ := h.get hlt
      have d0 := (hbw.cell (p := ⟨b, off + k * 2, none⟩) hbb).trans c0
      have d1 := (hbw.cell (p := ⟨b, off + k * 2 + 1, none⟩) hbb).trans c1
      by_cases heq : x.link = p
      · have hsel := ends_yes hx heq
        have hlen := ends_len ws p k
        have hln : ((ends ws p k).map Value.string).length = (ends ws p k).length := List.length_map _
        rw [hln] at hown
        have HN := Lib.hid hnn
        obtain ⟨L, hL⟩ : ∃ L, (ends ws p k) = L := ⟨_, rfl⟩
        rw [hL] at hown hlen hsel
        have HS := Lib.hid hsel
        obtain ⟨m, hm⟩ : ∃ m, L.length = m := ⟨_, rfl⟩
        rw [hm] at hown hlen
        have HM := Lib.hid hm
        obtain ⟨D, hD⟩ : ∃ D, L.map Value.string = D := ⟨_, rfl⟩
        rw [hD] at hown
        have HD := Lib.hid hD
        clear hx hln hnn hsel hL hm hD c0 c1
        go_wp2_with (at_builtin; refine wpList_append_own _ rfl _ _ 25 rfl (w.heap.size + 1) 9 i0 (.string ⟨#[]⟩) 1 16 Try.underlying25 HI.out.1 HI.out.2.1 HI.out.2.2.1 HI.out.2.2.2 rfl (by decide) _ _ _ rfl (hown.alloc _) ⟨wr.heap.size, 0, none⟩ 1 1 [.string x.name] rfl rfl (cell_one_new _ _ _) (fun x hx => by simp at hx; subst hx; rfl) (by unfold maxLen; omega) (by omega) (by simp; omega) ?_; intro v1 w1 hown1 hgrow1 hnil1)
        have hb1 := Lib.hid ((hbel.alloc (by omega) (.cells #[.string x.name] 9)).grown hgrow1 (by simp; omega) (fun j hj => (hown.lt j hj).1))
        have HOwn := Lib.hid hown1
        have HN1 : Hid (v1 ≠ .slice none 0 0) := fun h => HN.out (hnil1.1 h).1
        clear hown1 hgrow1 hnil1 hown
        go_wp2_with fail
        go_roundw
        case rel => exact ⟨k + 1, by omega, by go_num, ⟨by
          have := HOwn.out
          rw [HS.out, List.map_append, HD.out, List.map_cons, List.map_nil, List.length_append, List.length_singleton]
          have e : D.length = m := by rw [← HD.out, List.length_map]; exact HM.out
          rw [e]
          exact this, HN1.out⟩, hb1.out⟩
        case measure => simp [intOf]; omega
      · have hsel := ends_no hx heq
        have HOwn := Lib.hid (show Owns wr (w.heap.size + 1) 9 _ _ from ⟨hown, hnn⟩)
        rw [← hsel] at HOwn
        have HB := Lib.hid hbel
        clear hx hown hnn hsel c0 c1
        go_wp2_with fail
        go_roundw
        case rel => exact ⟨k + 1, by omega, by go_num, HOwn.out, HB.out⟩
        case measure => simp [intOf]; omega
    · obtain rfl : k = n5 := by omega
      have HOwn := Lib.hid (show Owns wr w.heap.size 9 _ _ from (Owns.mono ⟨hown, hnn⟩ (Nat.le_succ _)))
      clear hown
      go_wp2_with fail
      go_ret
      exact ⟨_, rfl, HOwn.out, ((Below.refl w.heap.size w).alloc (Nat.le_refl _) _).trans (hbel.mono (Nat.le_succ _))⟩

set_option maxRecDepth 20000 in
set_option maxHeartbeats 3200000 in
theorem ports_any (v0 v2 v3 v4 v5 : Value) (A1 : Option Addr) (n1 c1 : Nat) (ns : List Nd) (p : Int) (w0 w : World) (h : NdsAt w0 w0.heap.size A1 n1 ns) (hb0 : Below w0.heap.size w0 w) (hn : n1 ≤ 8) (hl : ∀ x ∈ ns, x.links.length ≤ 1048576) :
    Calls Try.prog 117 #[.agg #[v0, .slice A1 n1 c1, v2, v3, v4, v5], .int .i64 p] w fun e w' => ∃ v, e = .returned v ∧ OwnsP w' w.heap.size v (onL p (ports ns)) ∧ Below w.heap.size w w' := by
  obtain ⟨i0, hi, hz0, hz1, hz2⟩ := info_parts a2_info
  have HI := Lib.hid (And.intro hi (And.intro hz0 (And.intro hz1 hz2)))
  have HL := Lib.hid h.1
  have HLk := Lib.hid hl
  have HBox := Lib.hid (six_new w v0 (.slice A1 n1 c1) v2 v3 v4 v5 34)
  clear hi hz0 hz1 hz2 hl
  go_enter Try.func117, Try.ntmps117
  go_wp2_with fail
  go_loopw [5, 6] (fun v i wr => ∃ k : Nat, k ≤ n1 ∧ i = .int .i64 k ∧ OwnsP wr (w.heap.size + 1) v (onL p (prtsTo ns k)) ∧ Below (w.heap.size + 1) (w.alloc (.cells #[v0, .slice A1 n1 c1, v2, v3, v4, v5] 34)) wr) (fun _ i _ => n1 - (intOf i).toNat)
  case atStart =>
    exact ⟨0, Nat.zero_le _, rfl, ⟨by
      have := World.ownsRow_made (base := w.heap.size + 1) (e := 112) (size := 2) (w.alloc (.cells #[v0, .slice A1 n1 c1, v2, v3, v4, v5] 34)) #[] 0 (by simp) (by unfold maxLen; omega) (by simp)
      simpa [prtsTo, onL, ptc] using this, by simp⟩, (Below.refl _ _).alloc (by simp) _⟩
  case round =>
    obtain ⟨k, hk, rfl, ⟨hown, hnn⟩, hbel⟩ := hrel
    have hsz := hbel.size
    simp at hsz
    have hrow := HBox.out.of_block (hbel.block w.heap.size (by omega))
    obtain ⟨x0, x1, x2, x3, x4, x5⟩ := row6 hrow
    simp only [six] at x0 x1 x2 x3 x4 x5
    simp at x0 x1 x2 x3 x4 x5
    clear hrow
    by_cases hlt : k < n1
    · obtain ⟨b, off, x, rfl, hbb, hx, -, -, L, m, cap, c2, hint⟩ := h.get hlt
      have hml := HLk.out x (List.mem_of_getElem? hx)
      have hlm := hint.len
      have HX := Lib.hid hx
      have HOwn0 := Lib.hid (show OwnsP wr (w.heap.size + 1) _ _ from ⟨hown, hnn⟩)
      have HB0 := Lib.hid hbel
      rw [hlm] at hml
      clear hx hown hnn hbel
      go_wp2_with fail
      clear x0 x1 x2 x3 x4 x5
      go_loopw [5, 7] (fun v i wr => ∃ j : Nat, j ≤ m ∧ i = .int .i64 j ∧ OwnsP wr (w.heap.size + 1) v (onL p (prtsTo ns k ++ prts k x.links j)) ∧ Below (w.heap.size + 1) (w.alloc (.cells #[v0, .slice (some ⟨b, off, none⟩) n1 c1, v2, v3, v4, v5] 34)) wr) (fun _ i _ => m - (intOf i).toNat)
      case atStart => exact ⟨0, Nat.zero_le _, rfl, by have := HOwn0.out; simpa [prts] using this, HB0.out⟩
      case round =>
        obtain ⟨j, hj, rfl, ⟨hown, hnn⟩, hbel⟩ := hrel
        have hsz := hbel.size
        simp at hsz
        have hrow := HBox.out.of_block (hbel.block w.heap.size (by omega))
        obtain ⟨x0, x1, x2, x3, x4, x5⟩ := row6 hrow
        simp only [six] at x0 x1 x2 x3 x4 x5
        simp at x0 x1 x2 x3 x4 x5
        have hbw : Below w0.heap.size w0 wr := hb0.trans (((Below.refl w0.heap.size w).alloc hb0.size _).trans (hbel.mono (by have := hb0.size; omega)))
        have d2 := (hbw.cell (p := ⟨b, off + k * 3 + 2, none⟩) hbb).trans c2
        clear hrow
        by_cases hlt2 : j < m
        · obtain ⟨b2, off2, l, rfl, hbb2, hlj, e0⟩ := IntsAt.get hint hlt2
          have f0 := (hbw.cell (p := ⟨b2, off2 + j, none⟩) hbb2).trans e0
          have hsucc := prts_succ (k := k) hlj
          by_cases heq : l = p
          · have hsel : onL p (prtsTo ns k ++ prts k x.links (j + 1)) = onL p (prtsTo ns k ++ prts k x.links j) ++ [(k, j, l)] := by rw [hsucc, ← List.append_assoc]; exact onL_yes heq
            have hlen : (onL p (prtsTo ns k ++ prts k x.links j)).length ≤ 9 * 1048576 := by
              have := onL_len p (prtsTo ns k ++ prts k x.links j)
              rw [List.length_append, prts_len] at this
              have h9 := prtsTo_len HLk.out k
              have : k * 1048576 ≤ 8 * 1048576 := Nat.mul_le_mul_right _ (by omega)
              omega
            have HN := Lib.hid hnn
            obtain ⟨P, hP⟩ : ∃ P, onL p (prtsTo ns k ++ prts k x.links j) = P := ⟨_, rfl⟩
            rw [hP] at hown hlen hsel
            have HS := Lib.hid hsel
            obtain ⟨q, hq⟩ : ∃ q, P.length = q := ⟨_, rfl⟩
            rw [hq] at hown hlen
            have HQ := Lib.hid hq
            obtain ⟨D, hD⟩ : ∃ D, ptc P = D := ⟨_, rfl⟩
            rw [hD] at hown
            have HD := Lib.hid hD
            clear hnn hsel hP hq hD hsucc hlj e0
            go_wp2_with (at_builtin; refine wpList_append_own _ rfl _ _ 130 rfl (w.heap.size + 1) 112 i0 (.agg #[.int .i64 0, .int .i64 0]) 2 16 Try.underlying130 HI.out.1 HI.out.2.1 HI.out.2.2.1 HI.out.2.2.2 rfl (by decide) _ _ _ rfl (hown.alloc _) ⟨wr.heap.size, 0, none⟩ 1 1 [.int .i64 (k : Int), .int .i64 (j : Int)] rfl rfl (cell_two_new _ _ _ _) (fun x hx => by simp at hx; rcases hx with rfl | rfl <;> rfl) (by unfold maxLen; omega) (by omega) (by simp; omega) ?_; intro v1 w1 hown1 hgrow1 hnil1)
            have hb1 := Lib.hid ((hbel.alloc (by omega) (.cells #[.int .i64 (k : Int), .int .i64 (j : Int)] 112)).grown hgrow1 (by simp; omega) (fun j hj => (hown.lt j hj).1))
            have HOwn := Lib.hid hown1
            have HN1 : Hid (v1 ≠ .slice none 0 0) := fun h => HN.out (hnil1.1 h).1
            clear hown1 hgrow1 hnil1 hown
            go_wp2_with fail
            go_roundw
            case rel => exact ⟨j + 1, by omega, by go_num, ⟨by
              have := HOwn.out
              rw [HS.out, ptc_snoc, HD.out, List.length_append, List.length_singleton, HQ.out]
              exact this, HN1.out⟩, hb1.out⟩
            case measure => simp [intOf]; omega
          · have hsel : onL p (prtsTo ns k ++ prts k x.links (j + 1)) = onL p (prtsTo ns k ++ prts k x.links j) := by rw [hsucc, ← List.append_assoc]; exact onL_no heq
            have HOwn := Lib.hid (show OwnsP wr (w.heap.size + 1) _ _ from ⟨hown, hnn⟩)
            rw [← hsel] at HOwn
            have HB := Lib.hid hbel
            clear hown hnn hsel hsucc hlj e0
            go_wp2_with fail
            go_roundw
            case rel => exact ⟨j + 1, by omega, by go_num, HOwn.out, HB.out⟩
            case measure => simp [intOf]; omega
        · obtain rfl : j = m := by omega
          have HOwn := Lib.hid (show OwnsP wr (w.heap.size + 1) _ (onL p (prtsTo ns (k + 1))) from by rw [prtsTo_succ HX.out, hlm]; exact ⟨hown, hnn⟩)
          have HB := Lib.hid hbel
          clear hown hnn
          go_wp2_with fail
          go_roundw
          case rel => exact ⟨k + 1, by omega, by go_num, HOwn.out, HB.out⟩
          case measure => simp [intOf]; omega
    · obtain rfl : k = n1 := by omega
      have hpe : prtsTo ns k = ports ns := by unfold ports; rw [HL.out]
      have HOwn := Lib.hid (show OwnsP wr w.heap.size _ (onL p (ports ns)) from by rw [← hpe]; exact OwnsP.mono ⟨hown, hnn⟩ (Nat.le_succ _))
      clear hown hpe
      go_wp2_with fail
      go_ret
      exact ⟨_, rfl, HOwn.out, ((Below.refl w.heap.size w).alloc (Nat.le_refl _) _).trans (hbel.mono (Nat.le_succ _))⟩
end Go.Proofs.Ytifialdkjnmfoab.pts
