/- Pts Ha Rp Anc Psp Chd Idl Idi Ptm Idm Bs Ln Lep in one. -/
import Derived.Test.YtfjgapkjpmkplaaQc
import Derived.Maps.AppendAt
import Derived.StillTailTactics
import Derived.Test.YtfjgapkjpmkplaaQd
import Derived.Deep.RegionHeld3
import Derived.Test.YtfjgapkjpmkplaaQa
import Derived.RangeFuncBox
import Derived.RangeFuncLeaves
import Derived.Shelf.Abstract
import Derived.OwnWalkIn
import Derived.TacticsInMore
import Derived.LoopNIn
import Derived.LoopIn
import Derived.RangeFuncWrites
import Derived.RangeFuncNested
import Derived.Lib.Walk
import Derived.Deep.LoopGhost
import Derived.Deep.Draws
import Derived.Test.YtfjgapkjpmkplaaQe
set_option linter.unusedSimpArgs false
section
namespace Go.Proofs.Ytfjgapkjpmkplaa.pts
open kit bg opn strs only hb sg sig isig un gd inn ht hi cf pt ib rs
open Go.RowKit
set_option linter.unusedVariables false

/-- the names of the first inner names that have a link -/
def ends (ws : List Wr) (z : Int) : Nat → List ByteArray
  | 0 => []
  | k + 1 => match ws[k]? with
    | some x => if x.link = z then ends ws z k ++ [x.name] else ends ws z k
    | none => ends ws z k
theorem ends_yes {ws : List Wr} {z : Int} {k : Nat} {x : Wr} (h : ws[k]? = some x) (hz : x.link = z) : ends ws z (k + 1) = ends ws z k ++ [x.name] := by
  rw [ends, h]
  show (if x.link = z then _ else _) = _
  rw [if_pos hz]
theorem ends_no {ws : List Wr} {z : Int} {k : Nat} {x : Wr} (h : ws[k]? = some x) (hz : ¬ x.link = z) : ends ws z (k + 1) = ends ws z k := by
  rw [ends, h]
  show (if x.link = z then _ else _) = _
  rw [if_neg hz]
theorem ends_len (ws : List Wr) (z : Int) : ∀ k, (ends ws z k).length ≤ k
  | 0 => Nat.le_refl _
  | k + 1 => by
    have := ends_len ws z k
    unfold ends
    split
    · split
      · rw [List.length_append, List.length_singleton]; omega
      · omega
    · omega
/-- the ports of a link among some -/
def onL (z : Int) (ps : List Port) : List Port := ps.filter fun p => decide (p.2.2 = z)
theorem onL_yes {z : Int} {ps : List Port} {p : Port} (h : p.2.2 = z) : onL z (ps ++ [p]) = onL z ps ++ [p] := by
  unfold onL
  rw [List.filter_append]
  simp [h]
theorem onL_no {z : Int} {ps : List Port} {p : Port} (h : ¬ p.2.2 = z) : onL z (ps ++ [p]) = onL z ps := by
  unfold onL
  rw [List.filter_append]
  simp [h]
theorem onL_len (z : Int) (ps : List Port) : (onL z ps).length ≤ ps.length := List.length_filter_le _ _
theorem prts_len (k : Nat) (ls : List Int) (m : Nat) : (prts k ls m).length = m := by unfold prts; simp
theorem prtsTo_len {ns : List Nd} {M : Nat} (h : ∀ x ∈ ns, x.links.length ≤ M) (k : Nat) : (prtsTo ns k).length ≤ k * M := by
  induction k with
  | zero => simp [prtsTo]
  | succ k ih =>
    rw [Nat.succ_mul]
    cases hx : ns[k]? with
    | none =>
      have : prtsTo ns (k + 1) = prtsTo ns k ++ [] := by rw [prtsTo, hx]
      rw [this, List.append_nil]; omega
    | some x =>
      rw [prtsTo_succ hx, List.length_append, prts_len]
      have := h x (List.mem_of_getElem? hx)
      omega
/-- ports as cells -/
def ptc (ps : List Port) : List Value := ps.flatMap fun p => [.int .i64 p.1, .int .i64 p.2.1]
theorem ptc_snoc (ps : List Port) (p : Port) : ptc (ps ++ [p]) = ptc ps ++ [.int .i64 p.1, .int .i64 p.2.1] := by unfold ptc; rw [List.flatMap_append]; simp
/-- a row of the call's own that holds these ports -/
def OwnsP (w : World) (B : Nat) (v : Value) (ps : List Port) : Prop := w.ownsRow B 104 2 v ps.length (ptc ps) ∧ v ≠ .slice none 0 0
theorem OwnsP.mono {w : World} {B B' : Nat} {v : Value} {ps : List Port} (h : OwnsP w B v ps) (hB : B' ≤ B) : OwnsP w B' v ps := by
  obtain ⟨⟨h1, h2⟩, hn⟩ := h
  refine ⟨⟨h1, ?_⟩, hn⟩
  rcases h2 with h | ⟨g, cap, cur, e, hb, r⟩
  · exact .inl h
  · exact .inr ⟨g, cap, cur, e, by omega, r⟩
theorem a2_info : (Try.prog.info? 104).map (fun i => (i.zero, i.size, i.bytes)) = some (some (.agg #[.int .i64 0, .int .i64 0]), 2, 16) := by kernel_rfl
theorem cell_two_new (w : World) (a b : Value) (t : TypeId) : ∀ (j : Nat) u, [a, b][j]? = some u → (w.alloc (.cells #[a, b] t)).cell? ((⟨w.heap.size, 0, none⟩ : Addr).add j) = some u := by
  have hr := row_new w #[a, b] t 2 rfl
  intro j u hu
  match j, hu with
  | 0, hu =>
    simp at hu
    subst hu
    exact (hr.cell (show 0 < 2 by omega) : _)
  | 1, hu =>
    simp at hu
    subst hu
    show (w.alloc _).cell? ⟨w.heap.size, 0 + 1, none⟩ = _
    exact (hr.cell (show 1 < 2 by omega) : _)
  | j + 2, hu => simp at hu

set_option maxRecDepth 20000 in
set_option maxHeartbeats 1600000 in
theorem ends_any (v0 v1 v2 v3 v4 : Value) (A5 : Option Addr) (n5 c5 : Nat) (ws : List Wr) (p : Int) (w0 w : World) (h : WrsAt w0 w0.heap.size A5 n5 ws) (hb0 : Below w0.heap.size w0 w) (hn : n5 ≤ 1048576) :
    Calls Try.prog 150 #[.agg #[v0, v1, v2, v3, v4, .slice A5 n5 c5], .int .i64 p] w (ColPost 9 ((ends ws p n5).map Value.string) w) := by
  obtain ⟨i0, hi, hz0, hz1, hz2⟩ := info_parts str_info
  have HI := Lib.hid (And.intro hi (And.intro hz0 (And.intro hz1 hz2)))
  have HBox := Lib.hid (six_new w v0 v1 v2 v3 v4 (.slice A5 n5 c5) 39)
  clear hi hz0 hz1 hz2
  go_enter Try.func150, Try.ntmps150
  go_wp2_with fail
  go_loopw [5, 6] (fun v i wr => ∃ k : Nat, k ≤ n5 ∧ i = .int .i64 k ∧ Owns wr (w.heap.size + 1) 9 v ((ends ws p k).map Value.string) ∧ Below (w.heap.size + 1) (w.alloc (.cells #[v0, v1, v2, v3, v4, .slice A5 n5 c5] 39)) wr) (fun _ i _ => n5 - (intOf i).toNat)
  case atStart =>
    exact ⟨0, Nat.zero_le _, rfl, ⟨by
      have := World.ownsRow_made (base := w.heap.size + 1) (e := 9) (size := 1) (w.alloc (.cells #[v0, v1, v2, v3, v4, .slice A5 n5 c5] 39)) #[] 0 (by simp) (by unfold maxLen; omega) (by simp)
      simpa [ends] using this, by simp⟩, (Below.refl _ _).alloc (by simp) _⟩
  case round =>
    obtain ⟨k, hk, rfl, ⟨hown, hnn⟩, hbel⟩ := hrel
    have hsz := hbel.size
    simp at hsz
    have hrow := HBox.out.of_block (hbel.block w.heap.size (by omega))
    obtain ⟨x0, x1, x2, x3, x4, x5⟩ := row6 hrow
    simp only [six] at x0 x1 x2 x3 x4 x5
    simp at x0 x1 x2 x3 x4 x5
    have hbw : Below w0.heap.size w0 wr := hb0.trans (((Below.refl w0.heap.size w).alloc hb0.size _).trans (hbel.mono (by have := hb0.size; omega)))
    clear hrow
    by_cases hlt : k < n5
    · obtain ⟨b, off, x, rfl, hbb, hx, c0, c1⟩ := h.get hlt
      have d0 := (hbw.cell (p := ⟨b, off + k * 2, none⟩) hbb).trans c0
      have d1 := (hbw.cell (p := ⟨b, off + k * 2 + 1, none⟩) hbb).trans c1
      by_cases heq : x.link = p
      · have hsel := ends_yes hx heq
        have hlen := ends_len ws p k
        have hln : ((ends ws p k).map Value.string).length = (ends ws p k).length := List.length_map _
        rw [hln] at hown
        have HN := Lib.hid hnn
        obtain ⟨L, hL⟩ : ∃ L, (ends ws p k) = L := ⟨_, rfl⟩
        rw [hL] at hown hlen hsel
        have HS := Lib.hid hsel
        obtain ⟨m, hm⟩ : ∃ m, L.length = m := ⟨_, rfl⟩
        rw [hm] at hown hlen
        have HM := Lib.hid hm
        obtain ⟨D, hD⟩ : ∃ D, L.map Value.string = D := ⟨_, rfl⟩
        rw [hD] at hown
        have HD := Lib.hid hD
        clear hx hln hnn hsel hL hm hD c0 c1
        go_wp2_with (at_builtin; refine wpList_append_own _ rfl _ _ 25 rfl (w.heap.size + 1) 9 i0 (.string ⟨#[]⟩) 1 16 Try.underlying25 HI.out.1 HI.out.2.1 HI.out.2.2.1 HI.out.2.2.2 rfl (by decide) _ _ _ rfl (hown.alloc _) ⟨wr.heap.size, 0, none⟩ 1 1 [.string x.name] rfl rfl (cell_one_new _ _ _) (fun x hx => by simp at hx; subst hx; rfl) (by unfold maxLen; omega) (by omega) (by simp; omega) ?_; intro v1 w1 hown1 hgrow1 hnil1)
        have hb1 := Lib.hid ((hbel.alloc (by omega) (.cells #[.string x.name] 9)).grown hgrow1 (by simp; omega) (fun j hj => (hown.lt j hj).1))
        have HOwn := Lib.hid hown1
        have HN1 : Hid (v1 ≠ .slice none 0 0) := fun h => HN.out (hnil1.1 h).1
        clear hown1 hgrow1 hnil1 hown
        go_wp2_with fail
        go_roundw
        case rel => exact ⟨k + 1, by omega, by go_num, ⟨by
          have := HOwn.out
          rw [HS.out, List.map_append, HD.out, List.map_cons, List.map_nil, List.length_append, List.length_singleton]
          have e : D.length = m := by rw [← HD.out, List.length_map]; exact HM.out
          rw [e]
          exact this, HN1.out⟩, hb1.out⟩
        case measure => simp [intOf]; omega
      · have hsel := ends_no hx heq
        have HOwn := Lib.hid (show Owns wr (w.heap.size + 1) 9 _ _ from ⟨hown, hnn⟩)
        rw [← hsel] at HOwn
        have HB := Lib.hid hbel
        clear hx hown hnn hsel c0 c1
        go_wp2_with fail
        go_roundw
        case rel => exact ⟨k + 1, by omega, by go_num, HOwn.out, HB.out⟩
        case measure => simp [intOf]; omega
    · obtain rfl : k = n5 := by omega
      have HOwn := Lib.hid (show Owns wr w.heap.size 9 _ _ from (Owns.mono ⟨hown, hnn⟩ (Nat.le_succ _)))
      clear hown
      go_wp2_with fail
      go_ret
      exact ⟨_, rfl, HOwn.out, ((Below.refl w.heap.size w).alloc (Nat.le_refl _) _).trans (hbel.mono (Nat.le_succ _))⟩

set_option maxRecDepth 20000 in
set_option maxHeartbeats 3200000 in
theorem ports_any (v0 v2 v3 v4 v5 : Value) (A1 : Option Addr) (n1 c1 : Nat) (ns : List Nd) (p : Int) (w0 w : World) (h : NdsAt w0 w0.heap.size A1 n1 ns) (hb0 : Below w0.heap.size w0 w) (hn : n1 ≤ 8) (hl : ∀ x ∈ ns, x.links.length ≤ 1048576) :
    Calls Try.prog 149 #[.agg #[v0, .slice A1 n1 c1, v2, v3, v4, v5], .int .i64 p] w fun e w' => ∃ v, e = .returned v ∧ OwnsP w' w.heap.size v (onL p (ports ns)) ∧ Below w.heap.size w w' := by
  obtain ⟨i0, hi, hz0, hz1, hz2⟩ := info_parts a2_info
  have HI := Lib.hid (And.intro hi (And.intro hz0 (And.intro hz1 hz2)))
  have HL := Lib.hid h.1
  have HLk := Lib.hid hl
  have HBox := Lib.hid (six_new w v0 (.slice A1 n1 c1) v2 v3 v4 v5 39)
  clear hi hz0 hz1 hz2 hl
  go_enter Try.func149, Try.ntmps149
  go_wp2_with fail
  go_loopw [5, 6] (fun v i wr => ∃ k : Nat, k ≤ n1 ∧ i = .int .i64 k ∧ OwnsP wr (w.heap.size + 1) v (onL p (prtsTo ns k)) ∧ Below (w.heap.size + 1) (w.alloc (.cells #[v0, .slice A1 n1 c1, v2, v3, v4, v5] 39)) wr) (fun _ i _ => n1 - (intOf i).toNat)
  case atStart =>
    exact ⟨0, Nat.zero_le _, rfl, ⟨by
      have := World.ownsRow_made (base := w.heap.size + 1) (e := 104) (size := 2) (w.alloc (.cells #[v0, .slice A1 n1 c1, v2, v3, v4, v5] 39)) #[] 0 (by simp) (by unfold maxLen; omega) (by simp)
      simpa [prtsTo, onL, ptc] using this, by simp⟩, (Below.refl _ _).alloc (by simp) _⟩
  case round =>
    obtain ⟨k, hk, rfl, ⟨hown, hnn⟩, hbel⟩ := hrel
    have hsz := hbel.size
    simp at hsz
    have hrow := HBox.out.of_block (hbel.block w.heap.size (by omega))
    obtain ⟨x0, x1, x2, x3, x4, x5⟩ := row6 hrow
    simp only [six] at x0 x1 x2 x3 x4 x5
    simp at x0 x1 x2 x3 x4 x5
    clear hrow
    by_cases hlt : k < n1
    · obtain ⟨b, off, x, rfl, hbb, hx, -, -, L, m, cap, c2, hint⟩ := h.get hlt
      have hml := HLk.out x (List.mem_of_getElem? hx)
      have hlm := hint.len
      have HX := Lib.hid hx
      have HOwn0 := Lib.hid (show OwnsP wr (w.heap.size + 1) _ _ from ⟨hown, hnn⟩)
      have HB0 := Lib.hid hbel
      rw [hlm] at hml
      clear hx hown hnn hbel
      go_wp2_with fail
      clear x0 x1 x2 x3 x4 x5
      go_loopw [5, 7] (fun v i wr => ∃ j : Nat, j ≤ m ∧ i = .int .i64 j ∧ OwnsP wr (w.heap.size + 1) v (onL p (prtsTo ns k ++ prts k x.links j)) ∧ Below (w.heap.size + 1) (w.alloc (.cells #[v0, .slice (some ⟨b, off, none⟩) n1 c1, v2, v3, v4, v5] 39)) wr) (fun _ i _ => m - (intOf i).toNat)
      case atStart => exact ⟨0, Nat.zero_le _, rfl, by have := HOwn0.out; simpa [prts] using this, HB0.out⟩
      case round =>
        obtain ⟨j, hj, rfl, ⟨hown, hnn⟩, hbel⟩ := hrel
        have hsz := hbel.size
        simp at hsz
        have hrow := HBox.out.of_block (hbel.block w.heap.size (by omega))
        obtain ⟨x0, x1, x2, x3, x4, x5⟩ := row6 hrow
        simp only [six] at x0 x1 x2 x3 x4 x5
        simp at x0 x1 x2 x3 x4 x5
        have hbw : Below w0.heap.size w0 wr := hb0.trans (((Below.refl w0.heap.size w).alloc hb0.size _).trans (hbel.mono (by have := hb0.size; omega)))
        have d2 := (hbw.cell (p := ⟨b, off + k * 3 + 2, none⟩) hbb).trans c2
        clear hrow
        by_cases hlt2 : j < m
        · obtain ⟨b2, off2, l, rfl, hbb2, hlj, e0⟩ := IntsAt.get hint hlt2
          have f0 := (hbw.cell (p := ⟨b2, off2 + j, none⟩) hbb2).trans e0
          have hsucc := prts_succ (k := k) hlj
          by_cases heq : l = p
          · have hsel : onL p (prtsTo ns k ++ prts k x.links (j + 1)) = onL p (prtsTo ns k ++ prts k x.links j) ++ [(k, j, l)] := by rw [hsucc, ← List.append_assoc]; exact onL_yes heq
            have hlen : (onL p (prtsTo ns k ++ prts k x.links j)).length ≤ 9 * 1048576 := by
              have := onL_len p (prtsTo ns k ++ prts k x.links j)
              rw [List.length_append, prts_len] at this
              have h9 := prtsTo_len HLk.out k
              have : k * 1048576 ≤ 8 * 1048576 := Nat.mul_le_mul_right _ (by omega)
              omega
            have HN := Lib.hid hnn
            obtain ⟨P, hP⟩ : ∃ P, onL p (prtsTo ns k ++ prts k x.links j) = P := ⟨_, rfl⟩
            rw [hP] at hown hlen hsel
            have HS := Lib.hid hsel
            obtain ⟨q, hq⟩ : ∃ q, P.length = q := ⟨_, rfl⟩
            rw [hq] at hown hlen
            have HQ := Lib.hid hq
            obtain ⟨D, hD⟩ : ∃ D, ptc P = D := ⟨_, rfl⟩
            rw [hD] at hown
            have HD := Lib.hid hD
            clear hnn hsel hP hq hD hsucc hlj e0
            go_wp2_with (at_builtin; refine wpList_append_own _ rfl _ _ 172 rfl (w.heap.size + 1) 104 i0 (.agg #[.int .i64 0, .int .i64 0]) 2 16 Try.underlying172 HI.out.1 HI.out.2.1 HI.out.2.2.1 HI.out.2.2.2 rfl (by decide) _ _ _ rfl (hown.alloc _) ⟨wr.heap.size, 0, none⟩ 1 1 [.int .i64 (k : Int), .int .i64 (j : Int)] rfl rfl (cell_two_new _ _ _ _) (fun x hx => by simp at hx; rcases hx with rfl | rfl <;> rfl) (by unfold maxLen; omega) (by omega) (by simp; omega) ?_; intro v1 w1 hown1 hgrow1 hnil1)
            have hb1 := Lib.hid ((hbel.alloc (by omega) (.cells #[.int .i64 (k : Int), .int .i64 (j : Int)] 104)).grown hgrow1 (by simp; omega) (fun j hj => (hown.lt j hj).1))
            have HOwn := Lib.hid hown1
            have HN1 : Hid (v1 ≠ .slice none 0 0) := fun h => HN.out (hnil1.1 h).1
            clear hown1 hgrow1 hnil1 hown
            go_wp2_with fail
            go_roundw
            case rel => exact ⟨j + 1, by omega, by go_num, ⟨by
              have := HOwn.out
              rw [HS.out, ptc_snoc, HD.out, List.length_append, List.length_singleton, HQ.out]
              exact this, HN1.out⟩, hb1.out⟩
            case measure => simp [intOf]; omega
          · have hsel : onL p (prtsTo ns k ++ prts k x.links (j + 1)) = onL p (prtsTo ns k ++ prts k x.links j) := by rw [hsucc, ← List.append_assoc]; exact onL_no heq
            have HOwn := Lib.hid (show OwnsP wr (w.heap.size + 1) _ _ from ⟨hown, hnn⟩)
            rw [← hsel] at HOwn
            have HB := Lib.hid hbel
            clear hown hnn hsel hsucc hlj e0
            go_wp2_with fail
            go_roundw
            case rel => exact ⟨j + 1, by omega, by go_num, HOwn.out, HB.out⟩
            case measure => simp [intOf]; omega
        · obtain rfl : j = m := by omega
          have HOwn := Lib.hid (show OwnsP wr (w.heap.size + 1) _ (onL p (prtsTo ns (k + 1))) from by rw [prtsTo_succ HX.out, hlm]; exact ⟨hown, hnn⟩)
          have HB := Lib.hid hbel
          clear hown hnn
          go_wp2_with fail
          go_roundw
          case rel => exact ⟨k + 1, by omega, by go_num, HOwn.out, HB.out⟩
          case measure => simp [intOf]; omega
    · obtain rfl : k = n1 := by omega
      have hpe : prtsTo ns k = ports ns := by unfold ports; rw [HL.out]
      have HOwn := Lib.hid (show OwnsP wr w.heap.size _ (onL p (ports ns)) from by rw [← hpe]; exact OwnsP.mono ⟨hown, hnn⟩ (Nat.le_succ _))
      clear hown hpe
      go_wp2_with fail
      go_ret
      exact ⟨_, rfl, HOwn.out, ((Below.refl w.heap.size w).alloc (Nat.le_refl _) _).trans (hbel.mono (Nat.le_succ _))⟩
end Go.Proofs.Ytfjgapkjpmkplaa.pts
end

section
namespace Go.Proofs.Ytfjgapkjpmkplaa.ha
open kit bg opn strs only hb hi marks rs pt pts
open Go.RowKit
set_option linter.unusedVariables false

/-- ports in memory -/
def PtsAt (w : World) (B : Nat) (A : Option Addr) (n : Nat) (ps : List Port) : Prop :=
  ps.length = n ∧ (0 < n → ∃ b off, A = some ⟨b, off, none⟩ ∧ b < B ∧ ∀ (k : Nat) p, ps[k]? = some p → w.cell? ⟨b, off + k * 2, none⟩ = some (.int .i64 (p.1 : Nat)) ∧ w.cell? ⟨b, off + k * 2 + 1, none⟩ = some (.int .i64 (p.2.1 : Nat)))
theorem PtsAt.get {w : World} {B : Nat} {A : Option Addr} {n : Nat} {ps : List Port} {k : Nat} (h : PtsAt w B A n ps) (hk : k < n) : ∃ b off p, A = some ⟨b, off, none⟩ ∧ b < B ∧ ps[k]? = some p ∧ w.cell? ⟨b, off + k * 2, none⟩ = some (.int .i64 (p.1 : Nat)) ∧ w.cell? ⟨b, off + k * 2 + 1, none⟩ = some (.int .i64 (p.2.1 : Nat)) := by
  obtain ⟨b, off, e, hb, hc⟩ := h.2 (by omega)
  have hx : ps[k]? = some (ps[k]'(by have := h.1; omega)) := List.getElem?_eq_getElem _
  exact ⟨b, off, _, e, hb, hx, hc k _ hx⟩

end Go.Proofs.Ytfjgapkjpmkplaa.ha
end

section
namespace Go.Proofs.Ytfjgapkjpmkplaa.rp
open kit bg opn strs only hb hi marks sig inn rs rt pt pts ha
open Go.RowKit
set_option linter.unusedVariables false

/-- a slice with these ports, nil or in the blocks from lo to hi -/
def ResP (w : World) (lo hi : Nat) (v : Value) (ps : List Port) : Prop :=
  ∃ A c, v = .slice A ps.length c ∧ ((A = none ∧ c = 0 ∧ ps = []) ∨ ∃ g f, A = some ⟨g, 0, none⟩ ∧ lo ≤ g ∧ g < hi ∧ ps.length ≤ c ∧ w.rowIs g 104 (c * 2) f ∧ ∀ (k : Nat) p, ps[k]? = some p → f (k * 2) = .int .i64 (p.1 : Nat) ∧ f (k * 2 + 1) = .int .i64 (p.2.1 : Nat))
def MkdP (w : World) (lo hi : Nat) (v : Value) (n : Nat) (M : Nat → Value) : Prop :=
  ∃ A c, v = .slice A n c ∧ ((A = none ∧ c = 0 ∧ n = 0) ∨ ∃ g f, A = some ⟨g, 0, none⟩ ∧ lo ≤ g ∧ g < hi ∧ n ≤ c ∧ w.rowIs g 104 (c * 2) f ∧ ∀ x, x < n * 2 → f x = M x)
theorem ptc_get : ∀ {ps : List Port} {k : Nat} {p : Port}, ps[k]? = some p → (ptc ps)[k * 2]? = some (.int .i64 (p.1 : Nat)) ∧ (ptc ps)[k * 2 + 1]? = some (.int .i64 (p.2.1 : Nat))
  | [], k, p, h => by simp at h
  | q :: ps, 0, p, h => by
    simp at h
    subst h
    exact ⟨rfl, rfl⟩
  | q :: ps, k + 1, p, h => by
    have ih := ptc_get (ps := ps) (k := k) (p := p) (by simpa using h)
    have e : ptc (q :: ps) = .int .i64 (q.1 : Nat) :: .int .i64 (q.2.1 : Nat) :: ptc ps := rfl
    rw [e, show (k + 1) * 2 = k * 2 + 1 + 1 by omega]
    exact ⟨by simpa using ih.1, by simpa using ih.2⟩
theorem ptc_len (ps : List Port) : (ptc ps).length = ps.length * 2 := by
  induction ps with
  | nil => rfl
  | cons p ps ih =>
    have e : ptc (p :: ps) = .int .i64 (p.1 : Nat) :: .int .i64 (p.2.1 : Nat) :: ptc ps := rfl
    rw [e]; simp; omega
section
variable {w w' : World} {lo hi n : Nat} {v : Value} {ps : List Port} {M : Nat → Value}
theorem ResP.nil : ResP w lo hi (.slice none 0 0) [] := ⟨none, 0, rfl, .inl ⟨rfl, rfl, rfl⟩⟩
theorem ResP.stay (h : ResP w lo hi v ps) (hb : ∀ b f c, w.rowIs b 104 c f → lo ≤ b → b < hi → w'.heap[b]? = w.heap[b]?) : ResP w' lo hi v ps := by
  obtain ⟨A, c, rfl, hq⟩ := h
  refine ⟨A, c, rfl, hq.imp id ?_⟩
  rintro ⟨g, f, e, h1, h2, h3, h4, h5⟩
  exact ⟨g, f, e, h1, h2, h3, h4.of_block (hb g f _ h4 h1 h2), h5⟩
theorem ResP.on (h : ResP w lo hi v ps) (hb : Below w.heap.size w w') : ResP w' lo hi v ps := h.stay fun b f c hr _ _ => hb.block b hr.lt
theorem ResP.far {l r : Nat} (h : ResP w lo hi v ps) (ho : Only l r w w') (hr : r ≤ lo ∨ hi ≤ l) : ResP w' lo hi v ps := h.stay fun b f c hb h1 h2 => ho.block b hb.lt (by omega)
theorem MkdP.on (h : MkdP w lo hi v n M) (hb : Below w.heap.size w w') : MkdP w' lo hi v n M := by
  obtain ⟨A, c, rfl, hr⟩ := h
  refine ⟨A, c, rfl, hr.imp id ?_⟩
  rintro ⟨g, f, e, h1, h2, h3, h4, h5⟩
  exact ⟨g, f, e, h1, h2, h3, h4.of_block (hb.block g h4.lt), h5⟩
theorem MkdP.apart {l r : Nat} (h : MkdP w lo hi v n M) (ho : Only l r w w') (hr : r ≤ lo ∨ hi ≤ l) : MkdP w' lo hi v n M := by
  obtain ⟨A, c, rfl, hq⟩ := h
  refine ⟨A, c, rfl, hq.imp id ?_⟩
  rintro ⟨g, f, e, h1, h2, h3, h4, h5⟩
  exact ⟨g, f, e, h1, h2, h3, h4.of_block (ho.block g h4.lt (by omega)), h5⟩
theorem ResP.one (h : OwnsP w lo v ps) : ∃ g, lo ≤ g ∧ v.ownBlock = some g ∧ g < w.heap.size ∧ ResP w g (g + 1) v ps := by
  obtain ⟨⟨h1, h2⟩, hn⟩ := h
  rcases h2 with ⟨e, _⟩ | ⟨g, cap, cur, rfl, hb, hh, hc, hm, hs, ht⟩
  · exact absurd e hn
  · have hrow : w.rowIs g 104 (cap * 2) (fun i => (cur[i]?).getD undef) := ⟨cur, hh, by simpa using hs, fun i hi => by
      show cur[i]? = some ((cur[i]?).getD undef)
      rw [Array.getElem?_eq_getElem (show i < cur.size by omega)]; rfl⟩
    have hat : ∀ (i : Nat) u, i < ps.length * 2 → (ptc ps)[i]? = some u → (cur[i]?).getD undef = u := fun i u hi hu => by
      rw [← ht, List.getElem?_take_of_lt hi] at hu
      have hu2 : cur[i]? = some u := by simpa using hu
      rw [hu2]; rfl
    refine ⟨g, hb, rfl, hrow.lt, _, _, rfl, .inr ⟨g, _, rfl, Nat.le_refl _, Nat.lt_succ_self _, hc, hrow, fun k p hk => ?_⟩⟩
    have hkl : k < ps.length := (List.getElem?_eq_some_iff.1 hk).1
    obtain ⟨e1, e2⟩ := ptc_get hk
    exact ⟨hat _ _ (by omega) e1, hat _ _ (by omega) e2⟩
theorem ResP.one_empty (w : World) : ResP (w.alloc (.cells #[] 104)) w.heap.size (w.heap.size + 1) (.slice (some ⟨w.heap.size, 0, none⟩) 0 0) [] :=
  ⟨_, 0, rfl, .inr ⟨_, _, rfl, Nat.le_refl _, Nat.lt_succ_self _, Nat.le_refl _, row_new w #[] 104 0 rfl, fun k p h => by simp at h⟩⟩
theorem ResP.at (h : ResP w lo hi v ps) (hl : ps.length ≤ n) : ∃ A c, v = .slice A ps.length c ∧ PtsAt w w.heap.size A ps.length ps := by
  obtain ⟨A, c, rfl, ⟨rfl, rfl, rfl⟩ | ⟨g, f, rfl, h1, h2, h3, h4, h5⟩⟩ := h
  · exact ⟨_, _, rfl, rfl, fun h => absurd h (by simp)⟩
  · refine ⟨_, _, rfl, rfl, fun _ => ⟨g, 0, rfl, h4.lt, fun k p hk => ?_⟩⟩
    have hkl : k < ps.length := (List.getElem?_eq_some_iff.1 hk).1
    obtain ⟨e1, e2⟩ := h5 k p hk
    rw [Nat.zero_add]
    exact ⟨by rw [h4.cell (show k * 2 < c * 2 by omega), e1], by rw [h4.cell (show k * 2 + 1 < c * 2 by omega), e2]⟩
end
def TwoP (w : World) (lo : Nat) (v v' : Value) (ps : List Port) (ys' : List Value) : Prop :=
  ∃ g g', g ≠ g' ∧ lo ≤ g ∧ lo ≤ g' ∧ ResP w g (g + 1) v ps ∧ Res w g' (g' + 1) 9 v' ys'
theorem TwoP.nil {w : World} {lo : Nat} : TwoP w lo (.slice none 0 0) (.slice none 0 0) [] [] := ⟨lo, lo + 1, by omega, Nat.le_refl _, Nat.le_succ _, ResP.nil, Res.nil⟩
def PtPost (q : Bool) (ps : List Port) (ys' : List Value) (w : World) (e : Ending) (w' : World) : Prop :=
  ∃ v v', e = .returned (.tuple #[v, v', .bool q]) ∧ TwoP w' w.heap.size v v' ps ys' ∧ Below w.heap.size w w'
end Go.Proofs.Ytfjgapkjpmkplaa.rp
end

section
namespace Go.Proofs.Ytfjgapkjpmkplaa.anc
open kit bg opn strs only hb sg sig isig un gd inn ht hi cf ib rs abv
open Go.RowKit
set_option linter.unusedVariables false

/-- whether there is an answer, and which -/
noncomputable def ancQ (cs : List Ctl) (b : Big) (z : Int) : Bool := bigB cs b && inb z 0 (b.nodes.length - 1)
noncomputable def ancR (cs : List Ctl) (b : Big) (z : Int) : List Int := if ancQ cs b z = true then abv b.nodes b.nodes.length z else []
theorem ancR_no {cs : List Ctl} {b : Big} {z : Int} (h : ancQ cs b z = false) : ancR cs b z = [] := by unfold ancR; rw [h]; rfl
theorem ancR_yes {cs : List Ctl} {b : Big} {z : Int} (h : ancQ cs b z = true) : ancR cs b z = abv b.nodes b.nodes.length z := by unfold ancR; rw [if_pos h]
theorem ancR_len {cs : List Ctl} {b : Big} {z : Int} (h : BigS b) : (ancR cs b z).length ≤ 1048576 := by
  cases hq : ancQ cs b z with
  | false => rw [ancR_no hq]; simp
  | true => rw [ancR_yes hq]; exact Nat.le_trans (abv_len _ _ _) h.1

end Go.Proofs.Ytfjgapkjpmkplaa.anc
end

section
namespace Go.Proofs.Ytfjgapkjpmkplaa.psp
open kit bg opn strs only hb sg sig isig un gd inn ht hi cf pt ib rs rt pts ha rp
open Go.RowKit
set_option linter.unusedVariables false

noncomputable def ptQ (cs : List Ctl) (b : Big) (z : Int) : Bool := bigB cs b && linkB b z
noncomputable def ptA (cs : List Ctl) (b : Big) (z : Int) : List Port := if ptQ cs b z = true then onL z (ports b.nodes) else []
noncomputable def ptB (cs : List Ctl) (b : Big) (z : Int) : List ByteArray := if ptQ cs b z = true then ends b.inner z b.inner.length else []
theorem ptA_no {cs : List Ctl} {b : Big} {z : Int} (h : ptQ cs b z = false) : ptA cs b z = [] := by unfold ptA; rw [h]; rfl
theorem ptA_yes {cs : List Ctl} {b : Big} {z : Int} (h : ptQ cs b z = true) : ptA cs b z = onL z (ports b.nodes) := by unfold ptA; rw [if_pos h]
theorem ptB_no {cs : List Ctl} {b : Big} {z : Int} (h : ptQ cs b z = false) : ptB cs b z = [] := by unfold ptB; rw [h]; rfl
theorem ptB_yes {cs : List Ctl} {b : Big} {z : Int} (h : ptQ cs b z = true) : ptB cs b z = ends b.inner z b.inner.length := by unfold ptB; rw [if_pos h]
theorem big8 {cs : List Ctl} {b : Big} (h : bigB cs b = true) : b.nodes.length ≤ 8 ∧ (0 ≤ b.edges ∧ b.edges ≤ 8) ∧ b.outer.length ≤ 16 ∧ b.inner.length ≤ 16 := by
  have := sizes_of (big_of h).2.1
  exact ⟨this.2.2.1, this.2.1, this.2.2.2.2.1, this.2.2.2.2.2⟩
theorem links3 {cs : List Ctl} {b : Big} (h : bigB cs b = true) : ∀ x ∈ b.nodes, x.links.length ≤ 3 := fun x hx => by
  obtain ⟨k, hk⟩ := List.getElem?_of_mem hx
  have h1 := ((big_of h).2.2.2.2.1 k x hk).2.1
  unfold portsB at h1
  cases hc : cs[x.control.toNat]? with
  | none => rw [hc] at h1; cases h1
  | some c =>
    rw [hc] at h1
    have h2 : (x.links.length : Int) = c.ports := by simpa using h1
    have h3 := (big_of h).1.1 _ c hc
    unfold ctlB at h3
    simp only [Bool.and_eq_true] at h3
    have h4 := inb_true h3.1.2
    omega
theorem ptQ_big {cs : List Ctl} {b : Big} {z : Int} (h : ptQ cs b z = true) : bigB cs b = true := by
  unfold ptQ at h
  simp only [Bool.and_eq_true] at h
  exact h.1
theorem ptA_len {cs : List Ctl} {b : Big} {z : Int} : (ptA cs b z).length ≤ 24 := by
  cases hq : ptQ cs b z with
  | false => rw [ptA_no hq]; simp
  | true =>
    rw [ptA_yes hq]
    have h8 := big8 (ptQ_big hq)
    have h1 := onL_len z (ports b.nodes)
    have h2 := prtsTo_len (links3 (ptQ_big hq)) b.nodes.length
    have h3 : b.nodes.length * 3 ≤ 8 * 3 := Nat.mul_le_mul_right _ h8.1
    unfold ports at h1 ⊢
    omega
theorem ptB_len {cs : List Ctl} {b : Big} {z : Int} (h : BigS b) : (ptB cs b z).length ≤ 1048576 := by
  cases hq : ptQ cs b z with
  | false => rw [ptB_no hq]; simp
  | true => rw [ptB_yes hq]; exact Nat.le_trans (ends_len _ _ _) h.2.2.2.2.2.1

end Go.Proofs.Ytfjgapkjpmkplaa.psp
end

section
namespace Go.Proofs.Ytfjgapkjpmkplaa.chd
open kit bg opn strs only hb sg sig isig un gd inn ht hi cf ib rs rt abv anc
open Go.RowKit
set_option linter.unusedVariables false

/-- the numbers below k that a test takes, in ascending order -/
def sel (P : Nat → Bool) : Nat → List Int
  | 0 => []
  | k + 1 => if P k = true then sel P k ++ [(k : Int)] else sel P k
theorem sel_yes {P : Nat → Bool} {k : Nat} (h : P k = true) : sel P (k + 1) = sel P k ++ [(k : Int)] := by rw [sel, if_pos h]
theorem sel_no {P : Nat → Bool} {k : Nat} (h : P k = false) : sel P (k + 1) = sel P k := by rw [sel, if_neg (by simp [h])]
theorem sel_len (P : Nat → Bool) : ∀ k, (sel P k).length ≤ k
  | 0 => Nat.le_refl _
  | k + 1 => by
    have := sel_len P k
    cases h : P k with
    | true => rw [sel_yes h, List.length_append, List.length_singleton]; omega
    | false => rw [sel_no h]; omega
def kidP (ns : List Nd) (p : Int) (i : Nat) : Bool := match ns[i]? with
  | some x => decide (x.parent = p)
  | none => false
def siteP (zs : List Int) (p : Int) (i : Nat) : Bool := match zs[i]? with
  | some u => decide (u = p)
  | none => false
theorem kid_at {ns : List Nd} {p : Int} {i : Nat} {x : Nd} (h : ns[i]? = some x) : kidP ns p i = decide (x.parent = p) := by unfold kidP; rw [h]
theorem site_at {zs : List Int} {p : Int} {i : Nat} {u : Int} (h : zs[i]? = some u) : siteP zs p i = decide (u = p) := by unfold siteP; rw [h]

noncomputable def chQ (cs : List Ctl) (b : Big) (p : Int) : Bool := bigB cs b && (inb p (-b.roots) (-1) || inb p 0 (b.nodes.length - 1))
noncomputable def chA (cs : List Ctl) (b : Big) (p : Int) : List Int := if chQ cs b p = true then sel (kidP b.nodes p) b.nodes.length else []
noncomputable def chB (cs : List Ctl) (b : Big) (p : Int) : List Int := if chQ cs b p = true then sel (siteP b.sites p) b.sites.length else []
theorem chA_no {cs : List Ctl} {b : Big} {p : Int} (h : chQ cs b p = false) : chA cs b p = [] := by unfold chA; rw [h]; rfl
theorem chA_yes {cs : List Ctl} {b : Big} {p : Int} (h : chQ cs b p = true) : chA cs b p = sel (kidP b.nodes p) b.nodes.length := by unfold chA; rw [if_pos h]
theorem chB_no {cs : List Ctl} {b : Big} {p : Int} (h : chQ cs b p = false) : chB cs b p = [] := by unfold chB; rw [h]; rfl
theorem chB_yes {cs : List Ctl} {b : Big} {p : Int} (h : chQ cs b p = true) : chB cs b p = sel (siteP b.sites p) b.sites.length := by unfold chB; rw [if_pos h]
theorem chA_len {cs : List Ctl} {b : Big} {p : Int} (h : BigS b) : (chA cs b p).length ≤ 1048576 := by
  cases hq : chQ cs b p with
  | false => rw [chA_no hq]; simp
  | true => rw [chA_yes hq]; exact Nat.le_trans (sel_len _ _) h.1
theorem chB_len {cs : List Ctl} {b : Big} {p : Int} (h : BigS b) : (chB cs b p).length ≤ 1048576 := by
  cases hq : chQ cs b p with
  | false => rw [chB_no hq]; simp
  | true => rw [chB_yes hq]; exact Nat.le_trans (sel_len _ _) h.2.2.1
theorem place_eq (p R : Int) (m : Nat) (hR : 0 ≤ R) : inb p (-R) ((m : Int) - 1) = (inb p (-R) (-1) || inb p 0 ((m : Int) - 1)) := by
  unfold inb
  rw [← Bool.decide_or]
  congr 1
  exact propext ⟨fun h => by omega, fun h => by omega⟩
theorem roots_of {cs : List Ctl} {b : Big} (h : bigB cs b = true) : 0 ≤ b.roots ∧ b.roots ≤ 4 := (sizes_of (big_of h).2.1).1
theorem sites_of {cs : List Ctl} {b : Big} (h : bigB cs b = true) : b.sites.length ≤ 4 := (sizes_of (big_of h).2.1).2.2.2.1

set_option maxRecDepth 20000 in
set_option maxHeartbeats 1600000 in
theorem kids_any (v0 v2 v3 v4 v5 : Value) (A1 : Option Addr) (n1 c1 : Nat) (ns : List Nd) (p : Int) (w0 w : World) (h : NdsAt w0 w0.heap.size A1 n1 ns) (hb0 : Below w0.heap.size w0 w) (hn : n1 ≤ 8) :
    Calls Try.prog 142 #[.agg #[v0, .slice A1 n1 c1, v2, v3, v4, v5], .int .i64 p] w (ColPost 3 ((sel (kidP ns p) n1).map (Value.int .i64)) w) := by
  obtain ⟨i0, hi, hz0, hz1, hz2⟩ := info_parts int_info
  have HI := Lib.hid (And.intro hi (And.intro hz0 (And.intro hz1 hz2)))
  have HBox := Lib.hid (six_new w v0 (.slice A1 n1 c1) v2 v3 v4 v5 39)
  clear hi hz0 hz1 hz2
  go_enter Try.func142, Try.ntmps142
  go_wp2_with fail
  go_loopw [5, 6] (fun v i wr => ∃ k : Nat, k ≤ n1 ∧ i = .int .i64 k ∧ Owns wr (w.heap.size + 1) 3 v ((sel (kidP ns p) k).map (Value.int .i64)) ∧ Below (w.heap.size + 1) (w.alloc (.cells #[v0, .slice A1 n1 c1, v2, v3, v4, v5] 39)) wr) (fun _ i _ => n1 - (intOf i).toNat)
  case atStart =>
    exact ⟨0, Nat.zero_le _, rfl, ⟨by
      have := World.ownsRow_made (base := w.heap.size + 1) (e := 3) (size := 1) (w.alloc (.cells #[v0, .slice A1 n1 c1, v2, v3, v4, v5] 39)) #[] 0 (by simp) (by unfold maxLen; omega) (by simp)
      simpa [sel] using this, by simp⟩, (Below.refl _ _).alloc (by simp) _⟩
  case round =>
    obtain ⟨k, hk, rfl, ⟨hown, hnn⟩, hbel⟩ := hrel
    have hsz := hbel.size
    simp at hsz
    have hrow := HBox.out.of_block (hbel.block w.heap.size (by omega))
    obtain ⟨x0, x1, x2, x3, x4, x5⟩ := row6 hrow
    simp only [six] at x0 x1 x2 x3 x4 x5
    simp at x0 x1 x2 x3 x4 x5
    have hbw : Below w0.heap.size w0 wr := hb0.trans (((Below.refl w0.heap.size w).alloc hb0.size _).trans (hbel.mono (by have := hb0.size; omega)))
    clear hrow
    by_cases hlt : k < n1
    · obtain ⟨b, off, x, rfl, hbb, hx, c0, c1', -⟩ := h.get hlt
      have d1 := (hbw.cell (p := ⟨b, off + k * 3 + 1, none⟩) hbb).trans c1'
      by_cases heq : x.parent = p
      · have hsel := sel_yes (P := kidP ns p) (k := k) ((kid_at hx).trans (decide_eq_true heq))
        have hlen := sel_len (kidP ns p) k
        have hln : ((sel (kidP ns p) k).map (Value.int .i64)).length = (sel (kidP ns p) k).length := List.length_map _
        rw [hln] at hown
        have HN := Lib.hid hnn
        obtain ⟨L, hL⟩ : ∃ L, (sel (kidP ns p) k) = L := ⟨_, rfl⟩
        rw [hL] at hown hlen hsel
        have HS := Lib.hid hsel
        obtain ⟨m, hm⟩ : ∃ m, L.length = m := ⟨_, rfl⟩
        rw [hm] at hown hlen
        have HM := Lib.hid hm
        obtain ⟨D, hD⟩ : ∃ D, L.map (Value.int .i64) = D := ⟨_, rfl⟩
        rw [hD] at hown
        have HD := Lib.hid hD
        clear hx hln hnn hsel hL hm hD c0 c1'
        go_wp2_with (at_builtin; refine wpList_append_own _ rfl _ _ 24 rfl (w.heap.size + 1) 3 i0 (.int .i64 0) 1 8 Try.underlying24 HI.out.1 HI.out.2.1 HI.out.2.2.1 HI.out.2.2.2 rfl (by decide) _ _ _ rfl (hown.alloc _) ⟨wr.heap.size, 0, none⟩ 1 1 [.int .i64 (k : Int)] rfl rfl (cell_one_new _ _ _) (fun x hx => by simp at hx; subst hx; rfl) (by unfold maxLen; omega) (by omega) (by simp; omega) ?_; intro v1 w1 hown1 hgrow1 hnil1)
        have hb1 := Lib.hid ((hbel.alloc (by omega) (.cells #[.int .i64 (k : Int)] 3)).grown hgrow1 (by simp; omega) (fun j hj => (hown.lt j hj).1))
        have HOwn := Lib.hid hown1
        have HN1 : Hid (v1 ≠ .slice none 0 0) := fun h => HN.out (hnil1.1 h).1
        clear hown1 hgrow1 hnil1 hown
        go_wp2_with fail
        go_roundw
        case rel => exact ⟨k + 1, by omega, by go_num, ⟨by
          have := HOwn.out
          rw [HS.out, List.map_append, HD.out, List.map_cons, List.map_nil, List.length_append, List.length_singleton]
          have e : D.length = m := by rw [← HD.out, List.length_map]; exact HM.out
          rw [e]
          exact this, HN1.out⟩, hb1.out⟩
        case measure => simp [intOf]; omega
      · have hsel := sel_no (P := kidP ns p) (k := k) ((kid_at hx).trans (decide_eq_false heq))
        have HOwn := Lib.hid (show Owns wr (w.heap.size + 1) 3 _ _ from ⟨hown, hnn⟩)
        rw [← hsel] at HOwn
        have HB := Lib.hid hbel
        clear hx hown hnn hsel c0 c1'
        go_wp2_with fail
        go_roundw
        case rel => exact ⟨k + 1, by omega, by go_num, HOwn.out, HB.out⟩
        case measure => simp [intOf]; omega
    · obtain rfl : k = n1 := by omega
      have HOwn := Lib.hid (show Owns wr w.heap.size 3 _ _ from (Owns.mono ⟨hown, hnn⟩ (Nat.le_succ _)))
      clear hown
      go_wp2_with fail
      go_ret
      exact ⟨_, rfl, HOwn.out, ((Below.refl w.heap.size w).alloc (Nat.le_refl _) _).trans (hbel.mono (Nat.le_succ _))⟩

set_option maxRecDepth 20000 in
set_option maxHeartbeats 1600000 in
theorem holes_any (v0 v1 v3 v4 v5 : Value) (A2 : Option Addr) (n2 c2 : Nat) (zs : List Int) (p : Int) (w0 w : World) (h : IntsAt w0 w0.heap.size A2 n2 zs) (hb0 : Below w0.heap.size w0 w) (hn : n2 ≤ 8) :
    Calls Try.prog 143 #[.agg #[v0, v1, .slice A2 n2 c2, v3, v4, v5], .int .i64 p] w (ColPost 3 ((sel (siteP zs p) n2).map (Value.int .i64)) w) := by
  obtain ⟨i0, hi, hz0, hz1, hz2⟩ := info_parts int_info
  have HI := Lib.hid (And.intro hi (And.intro hz0 (And.intro hz1 hz2)))
  have HBox := Lib.hid (six_new w v0 v1 (.slice A2 n2 c2) v3 v4 v5 39)
  clear hi hz0 hz1 hz2
  go_enter Try.func143, Try.ntmps143
  go_wp2_with fail
  go_loopw [5, 6] (fun v i wr => ∃ k : Nat, k ≤ n2 ∧ i = .int .i64 k ∧ Owns wr (w.heap.size + 1) 3 v ((sel (siteP zs p) k).map (Value.int .i64)) ∧ Below (w.heap.size + 1) (w.alloc (.cells #[v0, v1, .slice A2 n2 c2, v3, v4, v5] 39)) wr) (fun _ i _ => n2 - (intOf i).toNat)
  case atStart =>
    exact ⟨0, Nat.zero_le _, rfl, ⟨by
      have := World.ownsRow_made (base := w.heap.size + 1) (e := 3) (size := 1) (w.alloc (.cells #[v0, v1, .slice A2 n2 c2, v3, v4, v5] 39)) #[] 0 (by simp) (by unfold maxLen; omega) (by simp)
      simpa [sel] using this, by simp⟩, (Below.refl _ _).alloc (by simp) _⟩
  case round =>
    obtain ⟨k, hk, rfl, ⟨hown, hnn⟩, hbel⟩ := hrel
    have hsz := hbel.size
    simp at hsz
    have hrow := HBox.out.of_block (hbel.block w.heap.size (by omega))
    obtain ⟨x0, x1, x2, x3, x4, x5⟩ := row6 hrow
    simp only [six] at x0 x1 x2 x3 x4 x5
    simp at x0 x1 x2 x3 x4 x5
    have hbw : Below w0.heap.size w0 wr := hb0.trans (((Below.refl w0.heap.size w).alloc hb0.size _).trans (hbel.mono (by have := hb0.size; omega)))
    clear hrow
    by_cases hlt : k < n2
    · obtain ⟨b, off, u, rfl, hbb, hx, c0⟩ := IntsAt.get h hlt
      have d1 := (hbw.cell (p := ⟨b, off + k, none⟩) hbb).trans c0
      by_cases heq : u = p
      · have hsel := sel_yes (P := siteP zs p) (k := k) ((site_at hx).trans (decide_eq_true heq))
        have hlen := sel_len (siteP zs p) k
        have hln : ((sel (siteP zs p) k).map (Value.int .i64)).length = (sel (siteP zs p) k).length := List.length_map _
        rw [hln] at hown
        have HN := Lib.hid hnn
        obtain ⟨L, hL⟩ : ∃ L, (sel (siteP zs p) k) = L := ⟨_, rfl⟩
        rw [hL] at hown hlen hsel
        have HS := Lib.hid hsel
        obtain ⟨m, hm⟩ : ∃ m, L.length = m := ⟨_, rfl⟩
        rw [hm] at hown hlen
        have HM := Lib.hid hm
        obtain ⟨D, hD⟩ : ∃ D, L.map (Value.int .i64) = D := ⟨_, rfl⟩
        rw [hD] at hown
        have HD := Lib.hid hD
        clear hx hln hnn hsel hL hm hD c0
        go_wp2_with (at_builtin; refine wpList_append_own _ rfl _ _ 24 rfl (w.heap.size + 1) 3 i0 (.int .i64 0) 1 8 Try.underlying24 HI.out.1 HI.out.2.1 HI.out.2.2.1 HI.out.2.2.2 rfl (by decide) _ _ _ rfl (hown.alloc _) ⟨wr.heap.size, 0, none⟩ 1 1 [.int .i64 (k : Int)] rfl rfl (cell_one_new _ _ _) (fun x hx => by simp at hx; subst hx; rfl) (by unfold maxLen; omega) (by omega) (by simp; omega) ?_; intro v1 w1 hown1 hgrow1 hnil1)
        have hb1 := Lib.hid ((hbel.alloc (by omega) (.cells #[.int .i64 (k : Int)] 3)).grown hgrow1 (by simp; omega) (fun j hj => (hown.lt j hj).1))
        have HOwn := Lib.hid hown1
        have HN1 : Hid (v1 ≠ .slice none 0 0) := fun h => HN.out (hnil1.1 h).1
        clear hown1 hgrow1 hnil1 hown
        go_wp2_with fail
        go_roundw
        case rel => exact ⟨k + 1, by omega, by go_num, ⟨by
          have := HOwn.out
          rw [HS.out, List.map_append, HD.out, List.map_cons, List.map_nil, List.length_append, List.length_singleton]
          have e : D.length = m := by rw [← HD.out, List.length_map]; exact HM.out
          rw [e]
          exact this, HN1.out⟩, hb1.out⟩
        case measure => simp [intOf]; omega
      · have hsel := sel_no (P := siteP zs p) (k := k) ((site_at hx).trans (decide_eq_false heq))
        have HOwn := Lib.hid (show Owns wr (w.heap.size + 1) 3 _ _ from ⟨hown, hnn⟩)
        rw [← hsel] at HOwn
        have HB := Lib.hid hbel
        clear hx hown hnn hsel c0
        go_wp2_with fail
        go_roundw
        case rel => exact ⟨k + 1, by omega, by go_num, HOwn.out, HB.out⟩
        case measure => simp [intOf]; omega
    · obtain rfl : k = n2 := by omega
      have HOwn := Lib.hid (show Owns wr w.heap.size 3 _ _ from (Owns.mono ⟨hown, hnn⟩ (Nat.le_succ _)))
      clear hown
      go_wp2_with fail
      go_ret
      exact ⟨_, rfl, HOwn.out, ((Below.refl w.heap.size w).alloc (Nat.le_refl _) _).trans (hbel.mono (Nat.le_succ _))⟩

end Go.Proofs.Ytfjgapkjpmkplaa.chd
end

section
namespace Go.Proofs.Ytfjgapkjpmkplaa.idl
open kit bg opn strs only hb sg sig isig un gd inn ht hi cf pt ib rs rt pts psp chd
open Go.RowKit
set_option linter.unusedVariables false

/-- whether a link has no points -/
def idleB (b : Big) (l : Int) : Bool := decide ((onL l (ports b.nodes)).length = 0) && decide ((ends b.inner l b.inner.length).length = 0)
def idleP (b : Big) (i : Nat) : Bool := idleB b (i : Int)
noncomputable def idlR (cs : List Ctl) (b : Big) : List Int := if bigB cs b = true then sel (idleP b) (b.edges + b.outer.length).toNat else []
theorem idlR_no {cs : List Ctl} {b : Big} (h : bigB cs b = false) : idlR cs b = [] := by unfold idlR; rw [h]; rfl
theorem idlR_yes {cs : List Ctl} {b : Big} (h : bigB cs b = true) : idlR cs b = sel (idleP b) (b.edges + b.outer.length).toNat := by unfold idlR; rw [if_pos h]
theorem idlR_len {cs : List Ctl} {b : Big} : (idlR cs b).length ≤ 1048576 := by
  cases hq : bigB cs b with
  | false => rw [idlR_no hq]; simp
  | true =>
    rw [idlR_yes hq]
    have := sel_len (idleP b) (b.edges + b.outer.length).toNat
    have := big8 hq
    omega

theorem Owns.on {w w' : World} {B : Nat} {t : TypeId} {v : Value} {ys : List Value} (h : Owns w B t v ys) (hb : Below w.heap.size w w') : Owns w' B t v ys := by
  obtain ⟨⟨a1, a2⟩, a3⟩ := h
  refine ⟨⟨a1, ?_⟩, a3⟩
  rcases a2 with ⟨e, _⟩ | ⟨g, cap, cur, e, hbb, hh, rr⟩
  · exact absurd e a3
  · exact .inr ⟨g, cap, cur, e, hbb, (hb.block g (Array.getElem?_eq_some_iff.1 hh).1).trans hh, rr⟩
theorem ResP_len {w : World} {B : Nat} {v : Value} {ps : List Port} (h : OwnsP w B v ps) : ∃ g cap, B ≤ g ∧ g < w.heap.size ∧ v = .slice (some ⟨g, 0, none⟩) ps.length cap := by
  obtain ⟨⟨h1, h2⟩, hn⟩ := h
  rcases h2 with ⟨e, _⟩ | ⟨g, cap, cur, rfl, hb, hh, hc, hm, hs, ht⟩
  · exact absurd e hn
  · exact ⟨g, cap, hb, (Array.getElem?_eq_some_iff.1 hh).1, rfl⟩

set_option maxRecDepth 20000 in
set_option maxHeartbeats 1600000 in
theorem idle_any (A1 A4 A5 : Option Addr) (n1 n4 n5 c1 c4 c5 : Nat) (v0 v2 v3 : Value) (b : Big) (l : Int) (w0 w : World) (h1 : NdsAt w0 w0.heap.size A1 n1 b.nodes) (h5 : WrsAt w0 w0.heap.size A5 n5 b.inner) (hb0 : Below w0.heap.size w0 w) (hn1 : n1 ≤ 8) (hn5 : n5 ≤ 16) (hl : ∀ x ∈ b.nodes, x.links.length ≤ 3) :
    Calls Try.prog 144 #[.agg #[v0, .slice A1 n1 c1, v2, v3, .slice A4 n4 c4, .slice A5 n5 c5], .int .i64 l] w (Post (idleB b l) w) := by
  have HBox : Hid (BoxAt (w.alloc (.cells #[v0, .slice A1 n1 c1, v2, v3, .slice A4 n4 c4, .slice A5 n5 c5] 39)) w.heap.size 39 v0 (.slice A1 n1 c1) v2 v3 (.slice A4 n4 c4) (.slice A5 n5 c5)) := Lib.hid (six_new w _ _ _ _ _ _ _)
  have HB0 := Lib.hid ((Below.refl w.heap.size w).alloc (Nat.le_refl _) (.cells #[v0, .slice A1 n1 c1, v2, v3, .slice A4 n4 c4, .slice A5 n5 c5] 39))
  obtain ⟨W, hW⟩ : ∃ W, w.alloc (.cells #[v0, .slice A1 n1 c1, v2, v3, .slice A4 n4 c4, .slice A5 n5 c5] 39) = W := ⟨_, rfl⟩
  have hWz : W.heap.size = w.heap.size + 1 := by rw [← hW]; simp
  rw [hW] at HBox HB0
  have HWq := Lib.hid hW
  have hWs : w.heap.size < W.heap.size := by omega
  have hbW := hb0.trans (HB0.out.mono hb0.size)
  have l5 := h5.1
  have HLk := Lib.hid (show ∀ x ∈ b.nodes, x.links.length ≤ 1048576 from fun x hx => Nat.le_trans (hl x hx) (by omega))
  have hbp : (onL l (ports b.nodes)).length ≤ 24 := by
    have h9 := onL_len l (ports b.nodes)
    have h2 := prtsTo_len hl b.nodes.length
    have h3 : b.nodes.length * 3 ≤ 8 * 3 := Nat.mul_le_mul_right _ (by have := h1.1; omega)
    unfold ports at h9 ⊢
    omega
  have hbe := ends_len b.inner l n5
  obtain ⟨P, hP⟩ : ∃ P, onL l (ports b.nodes) = P := ⟨_, rfl⟩
  obtain ⟨N, hN⟩ : ∃ N, ends b.inner l n5 = N := ⟨_, rfl⟩
  have hid : idleB b l = (decide (P.length = 0) && decide (N.length = 0)) := by unfold idleB; rw [hP, l5, hN]
  have HPo := Lib.hid (fun w2 hb2 => hP ▸ ports_any v0 v2 v3 (.slice A4 n4 c4) (.slice A5 n5 c5) A1 n1 c1 b.nodes l w0 w2 h1 hb2 hn1 HLk.out)
  have HEn := Lib.hid (fun w2 hb2 => hN ▸ ends_any v0 (.slice A1 n1 c1) v2 v3 (.slice A4 n4 c4) A5 n5 c5 b.inner l w0 w2 h5 hb2 (by omega))
  rw [hP] at hbp
  rw [hN] at hbe
  rw [hid]
  have hnl : (N.map Value.string).length = N.length := List.length_map _
  have HNl := Lib.hid hnl
  obtain ⟨np, hnp⟩ : ∃ np, P.length = np := ⟨_, rfl⟩
  obtain ⟨ne, hne⟩ : ∃ ne, N.length = ne := ⟨_, rfl⟩
  rw [hnp] at hbp ⊢
  rw [hne] at hbe ⊢
  have HNp := Lib.hid hnp
  have HNe := Lib.hid hne
  obtain ⟨x0, x1, x2, x3, x4, x5⟩ := HBox.out.get
  clear hW hWz hP hN hid hnl hnp hne hb0
  go_enter Try.func144, Try.ntmps144
  go_wp2_with fail
  rw [HWq.out]
  go_wp2_with fail
  refine (HPo.out _ hbW).mono ?_
  rintro e w1 ⟨v1, rfl, ho1, hb1⟩
  obtain ⟨g1, k1, -, -, r1⟩ := ResP_len ho1
  have hb01 := HB0.out.trans (hb1.mono HB0.out.size)
  have hbW1 := hbW.trans (hb1.mono hbW.size)
  have HBx1 := HBox.out.below hb1 hWs
  rw [HNp.out] at r1
  subst r1
  clear ho1 x0 x1 x2 x3 x4 x5 hb1
  obtain ⟨x0, x1, x2, x3, x4, x5⟩ := HBx1.get
  by_cases hz : np = 0
  · subst hz
    go_wp2_with fail
    refine (HEn.out _ hbW1).mono ?_
    rintro e w2 ⟨v2', rfl, ho2, hb2⟩
    obtain ⟨g2, cap2, rfl, -, -, hc2, -⟩ := ho2.at
    have hb02 := hb01.trans (hb2.mono hb01.size)
    rw [HNl.out, HNe.out] at hc2 ⊢
    clear ho2 hb2 x0 x1 x2 x3 x4 x5
    by_cases hz2 : ne = 0
    · subst hz2
      go_wp2_with fail
      go_ret
      exact ⟨rfl, hb02⟩
    · go_wp2_with fail
      go_ret
      exact ⟨by simp [hz2], hb02⟩
  · go_wp2_with fail
    go_ret
    exact ⟨by simp [hz], hb01⟩

end Go.Proofs.Ytfjgapkjpmkplaa.idl
end

section
namespace Go.Proofs.Ytfjgapkjpmkplaa.idi
open Go.Maps (Keyed)
open kit bg opn strs only hb sg sig isig un gd inn ht hi cf pt lf ib rs rt pts psp chd idl mapb
open Go.RowKit
set_option linter.unusedVariables false
attribute [local go_sem] Oper.semAt_some

theorem lawI : Keyed Try.prog 3 := Maps.int_keyed Try.underlying3
theorem keyI {z : Int} (h : (Lit.int .i64 z).wf = true) : keyOf Try.prog 3 (.int .i64 z) = some (.int .i64 z) := Maps.keyOf_int_mk Try.underlying3 h
theorem ends_nil (ws : List Wr) (z : Int) : ∀ k, (ends ws z k).length = 0 ↔ ∀ (j : Nat) x, j < k → ws[j]? = some x → x.link ≠ z
  | 0 => ⟨fun _ j x hj => absurd hj (Nat.not_lt_zero j), fun _ => rfl⟩
  | k + 1 => by
    have ih := ends_nil ws z k
    cases hx : ws[k]? with
    | none =>
      have e : ends ws z (k + 1) = ends ws z k := by rw [ends, hx]
      rw [e, ih]
      refine ⟨fun h j x hj hj2 => ?_, fun h j x hj hj2 => h j x (by omega) hj2⟩
      by_cases e : j = k
      · subst e; rw [hx] at hj2; cases hj2
      · exact h j x (by omega) hj2
    | some y =>
      by_cases hz : y.link = z
      · rw [ends_yes hx hz, List.length_append, List.length_singleton]
        exact ⟨fun h => by omega, fun h => absurd hz (h k y (by omega) hx)⟩
      · rw [ends_no hx hz, ih]
        refine ⟨fun h j x hj hj2 => ?_, fun h j x hj hj2 => h j x (by omega) hj2⟩
        by_cases e : j = k
        · subst e; rw [hx] at hj2; injection hj2 with e2; subst e2; exact hz
        · exact h j x (by omega) hj2
/-- the links of some ports and of the first inner names -/
def Busy (ps : List Port) (ws : List Wr) (k : Nat) (l : Lit) : Prop := (∃ p ∈ ps, l = .int .i64 p.2.2) ∨ ∃ (j : Nat) (x : Wr), j < k ∧ ws[j]? = some x ∧ l = .int .i64 x.link
theorem busy_iff (b : Big) (l : Int) : Busy (ports b.nodes) b.inner b.inner.length (.int .i64 l) ↔ idleB b l = false := by
  have h2 := ends_nil b.inner l b.inner.length
  have h1 : (onL l (ports b.nodes)).length = 0 ↔ ∀ p ∈ ports b.nodes, p.2.2 ≠ l := by
    unfold onL
    rw [List.length_eq_zero_iff, List.filter_eq_nil_iff]
    simp
  constructor
  · intro h
    unfold idleB
    rcases h with ⟨p, hp, e⟩ | ⟨j, x, hj, hx, e⟩
    · injection e with _ e
      rw [decide_eq_false (fun h => h1.1 h p hp e.symm)]; rfl
    · injection e with _ e
      rw [decide_eq_false (p := (ends b.inner l b.inner.length).length = 0) (fun h => h2.1 h j x hj hx e.symm), Bool.and_false]
  · intro h
    apply Classical.byContradiction
    intro hn
    have e1 := h1.2 (fun p hp e => hn (.inl ⟨p, hp, by rw [e]⟩))
    have e2 := h2.2 (fun j x hj hx e => hn (.inr ⟨j, x, hj, hx, by rw [e]⟩))
    unfold idleB at h
    rw [e1, e2] at h
    simp at h

theorem wpListIn_store_set {F : Fence} {nF : Nat} {P : Program} (w : World) {ops : Array Oper} {rest : List Oper} {o : Oper} {a : Act} {Q : Exit → Act → World → Prop}
    (hg : o.guard = none) (m x v : Operand) (t : TypeId) (hop : o.op = Op.mapUpdate t m x v)
    (k e : TypeId) (K : Keyed P k) (ht : P.underlying t = some (.map k e)) (he : P.underlying e = some .bool) (b n : Nat) (S : Lit → Prop)
    (hm : a.eval m = .map (some b)) (h : SetAt P k e w b n S) (hn : n < maxLen) (key : Value) (y : Bool) (kl : Lit) (hx : a.eval x = key) (hv : a.eval v = .bool y) (hkey : keyOf P k key = some kl) (hkl : WideAt.IsKeyLit kl)
    (hK : ∀ w', SetAt P k e w' b (n + 1) (fun l => (l = kl ∧ y = true) ∨ (l ≠ kl ∧ S l)) → w.grownBy w' (some b) → wpListIn F nF P ops Q rest (a.put o.dst undef) w') :
    wpListIn F nF P ops Q (o :: rest) a w := by
  obtain ⟨D, hown, hmap, hS⟩ := h
  refine wpListIn_mapUpdate_own w hg m x v t hop k e K ht _ b n D hm hown hn key (.bool y) kl hx hv hkey (.lit (.bool y)) [] (plainElem_bool he y) ?_
  intro w1 hown1 hg1
  refine hK w1 ⟨_, hown1, ?_, fun l hl => ?_⟩ hg1
  · exact hmap.put _ _
  · by_cases e2 : l = kl
    · subst e2
      exact ⟨y, Maps.atKey_put_same hmap hl _ _, by simp⟩
    · obtain ⟨x, h1, h2⟩ := hS l hl
      exact ⟨x, by rw [Maps.atKey_put_other e2]; exact h1, by simp [e2, h2]⟩
end Go.Proofs.Ytfjgapkjpmkplaa.idi
end

section
namespace Go.Proofs.Ytfjgapkjpmkplaa.ptm
open pt kit bg only hb
open Go.RowKit
set_option linter.unusedVariables false

attribute [local go_sem] Oper.semAt_some


theorem part_mem {ns : List Nd} {k m : Nat} {x : Nd} {l : Int} (h : ns[k]? = some x) (hl : x.links[m]? = some l) : (k, m, l) ∈ ports ns := by
  have hm : m < x.links.length := (List.getElem?_eq_some_iff.1 hl).1
  refine (part_prefix (m := m + 1) h (by omega)).subset ?_
  rw [prts_succ hl]
  simp
set_option maxRecDepth 100000 in
set_option maxHeartbeats 4000000 in
theorem ports_inM (F : Fence) (n : Nat) (h35 : F.fn 117) (hro : F.round = none) (hn : 1 ≤ n) (l β n₀ : Nat) (A1 : Option Addr) (n1 c1 : Nat) (ns : List Nd) (J Jx : List Port → World → Prop) (W : World)
    (hJ : AbidesFrom W.heap.size J)
    (hY : ∀ pre x W1, x ∈ ports ns → J pre W1 → pre.length < (ports ns).length → YieldAt F (n - 1) Try.prog l (encP x) W1 fun e W' =>
      (e = .returned (.bool true) ∧ J (pre ++ [x]) W' ∧ Below n₀ W1 W') ∨ (e = .returned (.bool false) ∧ Jx (pre ++ [x]) W'))
    (hc1 : W.cell? ⟨β, 1, none⟩ = some (.slice A1 n1 c1)) (hN : NdsAt W n₀ A1 n1 ns) (hn0 : n₀ ≤ W.heap.size) (hn1 : n1 ≤ 1048576) (hlk : ∀ x ∈ ns, x.links.length ≤ 1048576) (h0 : J [] W) :
    CallsIn F n Try.prog 117 #[.func (.yield l) #[] #[], .pointer (some ⟨β, 0, none⟩)] W fun e W' => (∃ v, e = .returned v) ∧
      ((∃ ys, ys = ports ns ∧ J ys W') ∨ (∃ pre, pre <+: ports ns ∧ Jx pre W')) := by
  have HL := Lib.hid hN.1
  have HLk := Lib.hid hlk
  clear hlk
  refine callsIn_of_wp Try.func117 rfl h35 ?_ hro
  simp only [Try.ntmps117, List.size_toArray, List.length_cons, List.length_nil, Nat.reduceAdd, Nat.reduceSub, Array.replicate_succ, Array.replicate_zero, List.push_toArray, List.append_toArray, List.nil_append, List.cons_append]
  gi_wp2
  gi_loopw [10] (fun i wr => ∃ k : Nat, k ≤ n1 ∧ i = .int .i64 k ∧ J (prtsTo ns k) wr ∧ Below n₀ W wr)
    (fun i _ => n1 - (intOf i).toNat)
  case atStart => exact ⟨0, Nat.zero_le _, rfl, h0, Below.refl _ _⟩
  case round =>
    obtain ⟨k, hk, rfl, hJs, hb⟩ := hrel
    obtain ⟨wo, rfl⟩ : ∃ wo : World, wo = wr := ⟨_, rfl⟩
    have hsz := hb.size
    by_cases hlt : k < n1
    · obtain ⟨b, off, x, rfl, hbb, hx, d0, d1, L, m, cap, d2, hi⟩ := hN.get hlt
      have g0 := (hb.cell (p := ⟨b, off + k * 3, none⟩) hbb).trans d0
      have g1 := (hb.cell (p := ⟨b, off + k * 3 + 1, none⟩) hbb).trans d1
      have g2 := (hb.cell (p := ⟨b, off + k * 3 + 2, none⟩) hbb).trans d2
      have hml : m ≤ 1048576 := by have := HLk.out x (List.mem_of_getElem? hx); have := hi.len; omega
      have hlen := hi.len
      have HX := Lib.hid hx
      have HI := Lib.hid hi
      have HLen := Lib.hid hlen
      have HJ1 := Lib.hid (hJ _ _ _ none hJs (World.grownBy_alloc wo (.cells #[.int .i64 x.control, .int .i64 x.parent, .slice L m cap] 146) none) (fun r e => by cases e))
      have HB1 := Lib.hid (hb.alloc (by omega) (.cells #[.int .i64 x.control, .int .i64 x.parent, .slice L m cap] 146))
      clear hx d0 d1 d2 hi hlen hJs hb
      gi_wp2
      gi_loopw [5, 6, 18] (fun _ _ i wi => ∃ j : Nat, j ≤ m ∧ i = .int .i64 j ∧ J (prtsTo ns k ++ prts k x.links j) wi ∧ Below n₀ W wi)
        (fun _ _ i _ => m - (intOf i).toNat)
      case atStart => exact ⟨0, Nat.zero_le _, rfl, by simpa [prts] using HJ1.out, HB1.out⟩
      case round =>
        obtain ⟨j, hj, rfl, hJi, hbi⟩ := hrel
        by_cases hjm : j < m
        · obtain ⟨bl, offl, z, rfl, hbl, hz, cz⟩ := HI.out.get hjm
          have cz2 := (hbi.cell (p := ⟨bl, offl + j, none⟩) hbl).trans cz
          obtain ⟨fn, tmps, assign, body, hy, hR⟩ := hY (prtsTo ns k ++ prts k x.links j) (k, j, z) wr (part_mem HX.out hz) hJi (part_lt HX.out hz)
          have HR := Lib.hid hR
          have HZ := Lib.hid hz
          have HBi := Lib.hid hbi
          dsimp only [encP] at hy
          clear hR hz cz hJi hbi
          gi_wp2
          refine HR.out.mono ?_
          rintro e W3 (⟨rfl, hJ3, hk3⟩ | ⟨rfl, hJx3⟩)
          · have HJ3 := Lib.hid (And.intro hJ3 (HBi.out.trans hk3))
            clear hJ3 hk3
            gi_wp2
            go_roundw
            case rel => exact ⟨j + 1, by omega, by go_num, by rw [prts_succ HZ.out, ← List.append_assoc]; exact HJ3.out.1, HJ3.out.2⟩
            case measure => simp [intOf]; omega
          · have HJx := Lib.hid hJx3
            clear hJx3
            gi_wp2
            refine bodyPost_ret (results_none rfl _ _ _) rfl ?_
            refine ⟨⟨_, rfl⟩, .inr ⟨_, ?_, HJx.out⟩⟩
            rw [List.append_assoc, ← prts_succ HZ.out]
            exact part_prefix HX.out (by have := (List.getElem?_eq_some_iff.1 HZ.out).1; omega)
        · obtain rfl : m = j := by omega
          have HJi := Lib.hid (And.intro hJi hbi)
          clear hJi hbi
          gi_wp2
          go_roundw
          case rel => exact ⟨k + 1, by omega, by go_num, by rw [prtsTo_succ HX.out, HLen.out]; exact HJi.out.1, HJi.out.2⟩
          case measure => simp [intOf]; omega
    · obtain rfl : n1 = k := by omega
      have HJs := Lib.hid hJs
      clear hJs
      gi_wp2
      go_end0
      exact ⟨⟨_, rfl⟩, .inl ⟨_, rfl, by unfold ports; rw [HL.out]; exact HJs.out⟩⟩


/-- a port of these nodes -/
def PortOf (ns : List Nd) : Type := { p : Port // p ∈ ports ns }
def PortOf.val {ns : List Nd} (p : PortOf ns) : Port := p.1
theorem ports_stopsM (F : Fence) (n : Nat) (h35 : F.fn 117) (hro : F.round = none) (hn : 1 ≤ n) (β n₀ : Nat) (A1 : Option Addr) (n1 c1 : Nat) (ns : List Nd) (w : World) (hβ : β < w.heap.size) (hn0 : n₀ ≤ w.heap.size)
    (hc1 : w.cell? ⟨β, 1, none⟩ = some (.slice A1 n1 c1)) (hN : NdsAt w n₀ A1 n1 ns) (hn1 : n1 ≤ 1048576) (hlk : ∀ x ∈ ns, x.links.length ≤ 1048576) :
    SeqStopsK F n Try.prog 117 #[.pointer (some ⟨β, 0, none⟩)] (fun p : PortOf ns => encP p.val) (Below n₀) (fun ys => ys.map PortOf.val = ports ns) (fun _ => True) (ports ns).length w := fun l J Jx W hW hJ _ hY h0 => by
  refine (ports_inM F n h35 hro hn l β n₀ A1 n1 c1 ns (fun pre W' => ∃ ys : List (PortOf ns), ys.map PortOf.val = pre ∧ J ys W') (fun pre W' => ∃ ys : List (PortOf ns), Jx ys W') W ?_ ?_ ((hW.cell (p := ⟨β, 1, none⟩) hβ).trans hc1) (hN.below (hW.mono hn0)) (by have := hW.size; omega) hn1 hlk ⟨[], rfl, h0⟩).mono ?_
  · rintro s A B row ⟨ys, e, hs⟩ hg hr
    exact ⟨ys, e, hJ _ _ _ _ hs hg hr⟩
  · rintro pre x W1 hx ⟨ys, rfl, hs⟩ hlt
    obtain ⟨fn, tmps, assign, body, hy, hR⟩ := hY ys ⟨x, hx⟩ W1 hs (by simpa using hlt)
    refine ⟨fn, tmps, assign, body, hy, hR.mono ?_⟩
    rintro e W' (⟨a, b, c⟩ | ⟨a, b⟩)
    · exact .inl ⟨a, ⟨ys ++ [⟨x, hx⟩], by rw [List.map_append]; rfl, b⟩, c⟩
    · exact .inr ⟨a, _, b⟩
  · rintro e W' ⟨hv, h⟩
    refine ⟨hv, ?_⟩
    rcases h with ⟨ys, e1, zs, e2, hz⟩ | ⟨pre, -, ys, hz⟩
    · exact .inl ⟨zs, e2.trans e1, hz⟩
    · exact .inr ⟨ys, trivial, hz⟩
end Go.Proofs.Ytfjgapkjpmkplaa.ptm
end

section
namespace Go.Proofs.Ytfjgapkjpmkplaa.idm
open Go.Maps (Keyed)
open kit bg opn strs only over hb sg sig isig un gd inn ht hi cf pt ptm lf ib rs rt pts psp chd idl mapb idi
open Go.RowKit
set_option linter.unusedVariables false
attribute [local go_sem] Oper.semAt_some

theorem wf_port {b : Big} (h : BigW b) {p : Port} (hp : p ∈ ports b.nodes) : (Lit.int .i64 p.2.2).wf = true := by
  obtain ⟨k, x, i, hx, hl⟩ := mem_prtsTo hp
  exact (h.2.2.2.1 x (List.mem_of_getElem? hx)).2.2.2 _ (List.mem_of_getElem? hl)

theorem wf_wire {b : Big} (h : BigW b) {x : Wr} (hx : x ∈ b.inner) : (Lit.int .i64 x.link).wf = true := by
  obtain ⟨-, -, -, -, -, -, -, -, -, hwi⟩ := h
  exact (hwi x hx).2
theorem wf_small : ∀ k : Nat, k < 25 → (Lit.int .i64 (k : Int)).wf = true := by decide

set_option maxRecDepth 100000 in
set_option maxHeartbeats 6400000 in
theorem iIdl_any (A : Option Addr) (n c : Nat) (cs : List Ctl) (v : Value) (b : Big) (w : World) (hC : CtlsAt w w.heap.size A n cs) (hv : BigAt w w.heap.size v b) (hn : n ≤ 1048576) (hs : ∀ c ∈ cs, c.name.size ≤ 1048576) (hS : BigS b) (hw : BigW b) :
    Calls Try.prog 91 #[.slice A n c, v] w (ResPost 3 (bigB cs b) ((idlR cs b).map (Value.int .i64)) w) := by
  obtain ⟨i0, hi0, hz0, hz1, hz2⟩ := info_parts int_info
  have HI := Lib.hid (And.intro hi0 (And.intro hz0 (And.intro hz1 hz2)))
  clear hi0 hz0 hz1 hz2
  obtain ⟨A1, n1, c1, A2, n2, c2, A4, n4, c4, A5, n5, c5, rfl, h1, h2, h4, h5⟩ := hv
  have HBox : Hid (BoxAt (w.alloc (.cells #[.int .i64 b.roots, .slice A1 n1 c1, .slice A2 n2 c2, .int .i64 b.edges, .slice A4 n4 c4, .slice A5 n5 c5] 39)) w.heap.size 39 (.int .i64 b.roots) (.slice A1 n1 c1) (.slice A2 n2 c2) (.int .i64 b.edges) (.slice A4 n4 c4) (.slice A5 n5 c5)) := Lib.hid (six_new w _ _ _ _ _ _ _)
  have HB0 := Lib.hid ((Below.refl w.heap.size w).alloc (Nat.le_refl _) (.cells #[.int .i64 b.roots, .slice A1 n1 c1, .slice A2 n2 c2, .int .i64 b.edges, .slice A4 n4 c4, .slice A5 n5 c5] 39))
  obtain ⟨W, hW⟩ : ∃ W, w.alloc (.cells #[.int .i64 b.roots, .slice A1 n1 c1, .slice A2 n2 c2, .int .i64 b.edges, .slice A4 n4 c4, .slice A5 n5 c5] 39) = W := ⟨_, rfl⟩
  have hWz : W.heap.size = w.heap.size + 1 := by rw [← hW]; simp
  rw [hW] at HBox HB0
  have HWq := Lib.hid hW
  have hWs : w.heap.size < W.heap.size := by omega
  have hVW : BigAt W W.heap.size (.agg #[.int .i64 b.roots, .slice A1 n1 c1, .slice A2 n2 c2, .int .i64 b.edges, .slice A4 n4 c4, .slice A5 n5 c5]) b := BigAt.wide (BigAt.below ⟨_, _, _, _, _, _, _, _, _, _, _, _, rfl, h1, h2, h4, h5⟩ HB0.out) HB0.out.size
  clear hW hWz
  have C := isBig_any A n c cs _ b W ((hC.below HB0.out).wide HB0.out.size) hVW hn hs hS hw
  obtain ⟨x0, x1, x2, x3, x4, x5⟩ := HBox.out.get
  have l1 := h1.1
  have l4 := h4.strlen
  have l5 := h5.1
  have HW := Lib.hid hw
  have HLk := Lib.hid hS.2.1
  clear hS hw hVW hs
  refine callsIn_wide (n := 8) |>.1 ?_
  refine callsIn_of_wp_marks Try.func91 rfl trivial ?_ rfl
  simp only [Try.ntmps91, List.size_toArray, List.length_cons, List.length_nil, Nat.reduceAdd, Nat.reduceSub, Array.replicate_succ, Array.replicate_zero, List.push_toArray, List.append_toArray, List.nil_append, List.cons_append]
  refine wpIn_wide.2 ?_
  cases hq : bigB cs b with
  | false =>
    rw [hq] at C
    have HR := Lib.hid (idlR_no hq)
    clear hq
    go_wp2_with fail
    rw [HWq.out]
    go_wp2_with fail
    refine C.mono ?_
    rintro e w1 ⟨rfl, hb⟩
    have hb1 := HB0.out.trans (hb.mono HB0.out.size)
    clear hb C x0 x1 x2 x3 x4 x5
    go_wp2_with fail
    refine ⟨_, results_tmp2 rfl _ _ _, ?_⟩
    exact ⟨.slice none 0 0, rfl, by rw [HR.out]; exact Res.nil, hb1⟩
  | true =>
    rw [hq] at C
    have h8 := big8 hq
    rw [l1, l4, l5] at h8
    obtain ⟨h81, ⟨h82, h83⟩, h84, h85⟩ := h8
    have hL3 := links3 hq
    have hNp : (ports b.nodes).length ≤ 24 := by
      have h2 := prtsTo_len hL3 b.nodes.length
      have h3 : b.nodes.length * 3 ≤ 8 * 3 := Nat.mul_le_mul_right _ (by omega)
      unfold ports
      omega
    have hR2 := idlR_yes hq
    rw [l4] at hR2
    have HR := Lib.hid hR2
    have hmm := @run_makeMap Try.prog
    clear hq hR2
    go_wp2_with fail
    rw [HWq.out]
    go_wp2_with fail
    refine C.mono ?_
    rintro e w1 ⟨rfl, hb⟩
    have hb1 := HB0.out.trans (hb.mono HB0.out.size)
    have hs1 : w.heap.size < w1.heap.size := Nat.lt_of_lt_of_le hWs hb.size
    have HBx1 := Lib.hid (HBox.out.below hb hWs)
    clear hb C x0 x1 x2 x3 x4 x5
    obtain ⟨x0, x1, x2, x3, x4, x5⟩ := HBx1.out.get
    go_wp2_with fail
    clear hmm
    have hset0 := SetAt.made w1 Try.prog 3 4
    have hbx0 := Boxed.new (w1.alloc (.map #[] 0)) 159 (.map (some w1.heap.size))
    rw [World.size_alloc] at hbx0
    have hb2 := ((Below.refl w1.heap.size w1).alloc (Nat.le_refl _) (.map #[] 0)).alloc (by simp) (.cells #[.map (some w1.heap.size)] 159)
    have hset1 := hset0.kept (World.grownBy_alloc (w1.alloc (.map #[] 0)) (.cells #[.map (some w1.heap.size)] 159) none) (by simp)
    obtain ⟨w2, hw2⟩ : ∃ w2, (w1.alloc (.map #[] 0)).alloc (.cells #[.map (some w1.heap.size)] 159) = w2 := ⟨_, rfl⟩
    have hz2 : w2.heap.size = w1.heap.size + 2 := by rw [← hw2]; simp
    rw [hw2] at hbx0 hb2 hset1 ⊢
    clear hw2 hset0
    refine ((callsIn_wide (n := 8)).1 (portsOf_in Fence.wide 8 trivial rfl #[.int .i64 b.roots, .slice A1 n1 c1, .slice A2 n2 c2, .int .i64 b.edges, .slice A4 n4 c4, .slice A5 n5 c5] rfl w2)).mono ?_
    rintro e w8 ⟨rfl, hw8⟩
    have hbx : Hid (BoxAt w8 w2.heap.size 39 (.int .i64 b.roots) (.slice A1 n1 c1) (.slice A2 n2 c2) (.int .i64 b.edges) (.slice A4 n4 c4) (.slice A5 n5 c5)) := Lib.hid (by rw [hw8]; exact six_new w2 _ _ _ _ _ _ _)
    have hb28 : Below w2.heap.size w2 w8 := by rw [hw8]; exact (Below.refl _ _).alloc (Nat.le_refl _) _
    have hz8 : w8.heap.size = w2.heap.size + 1 := by rw [hw8]; simp
    have hset8 := hset1.below hb28 (by omega)
    have hbx8 : Boxed w8 (w1.heap.size + 1) 159 (.map (some w1.heap.size)) := (hb28.block _ (by omega)).trans hbx0
    have hb18 := hb2.trans (hb28.mono (by omega))
    have hbw8 := hb1.trans (hb18.mono hb1.size)
    have HSet8 := Lib.hid (hset8.congr (S' := Busy [] b.inner 0) (fun l => ⟨fun h => h.elim, fun h => by rcases h with ⟨p, hp, _⟩ | ⟨j, x, hj, _⟩ <;> first | cases hp | omega⟩))
    have HB18 := Lib.hid hb18
    have HBx8 := Lib.hid hbx8
    have hN8 := h1.below hbw8
    have hβ : w2.heap.size < w8.heap.size := by omega
    have hw1s : w.heap.size ≤ w1.heap.size := hb1.size
    rw [hz2] at hbx hβ hz8
    clear hw8 hset1 hset8 hbx0 hbx8 hb2 hb28 x0 x1 x2 x3 x4 x5
    go_wp2_with fail
    refine wpIn_wide (n := 8) |>.1 ?_
    refine' wpIn_rangeFunc_ownG rfl (by omega) (gf := 117) (lb := #[.pointer (some ⟨w1.heap.size + 2, 0, none⟩)]) rfl trivial (enters_of Try.func117 (by kernel_rfl) rfl)
      (ports_stopsM Fence.wide 7 trivial rfl (by omega) (w1.heap.size + 2) w.heap.size A1 n1 c1 b.nodes w8 hβ (by omega) (hbx.out.get).2.1 hN8 (by omega) HLk.out) belowK_t (belowK_b (by omega)) (Below.refl _ _) (fun _ => rfl)
      (fun pre W' => SetAt Try.prog 3 4 W' w1.heap.size pre.length (Busy (pre.map PortOf.val) b.inner 0) ∧ Boxed W' (w1.heap.size + 1) 159 (.map (some w1.heap.size)) ∧ Below w1.heap.size w1 W')
      (fun _ _ _ => False)
      (OwnFrom.and (fun s A B row hs hg hr => hs.kept hg (fun e => by have := (hr _ e.symm).1; omega)) (OwnFrom.and (fun s A B row hs hg hr => hs.kept hg (fun e => by have := (hr _ e.symm).1; omega)) (ownFrom_below (Nat.le_refl _) (by omega))))
      (fun _ _ _ _ _ hs _ _ => hs)
      ⟨by simpa using HSet8.out, HBx8.out, HB18.out⟩ _ ?assign ?body ?done ?stop
    case assign =>
      intro l x W' K hK
      dsimp only [encP]
      gi_wp2
      exact hK
    case body =>
      rintro l pre x W' ⟨hset, hbxw, hB⟩ hlt
      have hsz := hB.size
      have c6 := hbxw.cell
      have HKey := Lib.hid (keyI (wf_port HW.out x.2))
      have HBxw := Lib.hid hbxw
      have HBb := Lib.hid hB
      have hpl : pre.length ≤ 24 := by omega
      obtain ⟨z, hz⟩ : ∃ z, x.val.2.2 = z := ⟨_, rfl⟩
      have HKz : Hid (keyOf Try.prog 3 (.int .i64 z) = some (.int .i64 z)) := Lib.hid (by rw [← hz]; exact HKey.out)
      have HZ := Lib.hid hz
      rw [hz]
      clear hbxw hB HKey hz
      gi_wp2_with (gi_at_mapUpdate; refine wpListIn_store_set _ rfl _ _ _ 159 rfl 3 4 lawI Try.underlying159 Try.underlying4 w1.heap.size pre.length _ rfl hset (by unfold maxLen; omega) _ true _ rfl rfl HKz.out trivial ?_; intro w3 hset3 hg3)
      refine ⟨KeepsFrom.of_grownBy hg3 (fun j e => by injection e with e; omega), (Below.refl W'.heap.size W').mono hsz |>.mono (by omega) |>.grown hg3 (by omega) (fun r e => by injection e with e; omega), ?_, HBxw.out.kept hg3 (by simp), HBb.out.grown hg3 hsz (fun r e => by injection e with e; omega)⟩
      rw [List.length_append, List.length_singleton]
      refine hset3.congr (fun l' => ?_)
      rw [List.map_append]
      constructor
      · rintro (⟨e, -⟩ | ⟨-, h⟩)
        · exact .inl ⟨x.val, by simp, by rw [e, HZ.out]⟩
        · rcases h with ⟨p, hp, e⟩ | ⟨j, y, hj, _⟩
          · exact .inl ⟨p, List.mem_append_left _ hp, e⟩
          · omega
      · rintro (⟨p, hp, e⟩ | ⟨j, y, hj, _⟩)
        · by_cases e2 : l' = .int .i64 z
          · exact .inl ⟨e2, by first | rfl | trivial⟩
          · refine .inr ⟨e2, .inl ⟨p, ?_, e⟩⟩
            rcases List.mem_append.1 hp with h | h
            · exact h
            · exfalso
              have : p = x.val := by simpa using h
              rw [this, HZ.out] at e
              exact e2 e
        · omega
    case done =>
      rintro D ys W' hD hys ⟨hset, hbxw, hB⟩ hK
      have hys' : ys.map PortOf.val = ports b.nodes := hys
      have hlen : ys.length = (ports b.nodes).length := by rw [← hys', List.length_map]
      rw [hys', hlen] at hset
      obtain ⟨np, hnp⟩ : ∃ np, (ports b.nodes).length = np := ⟨_, rfl⟩
      rw [hnp] at hset hNp
      have HSet := Lib.hid hset
      have HBxw := Lib.hid hbxw
      have HBb := Lib.hid hB
      have HK := Lib.hid hK
      have hDl := lt_of_block hK
      have hDw : w1.heap.size + 2 ≤ D := by omega
      obtain ⟨x0, x1, x2, x3, x4, x5⟩ := (HBx1.out.below hB hs1).get
      clear hys hys' hlen hset hbxw hB hK hnp
      go_wp2_with fail
      clear x0 x1 x2 x3 x4 x5
      go_loopw [27] (fun i wr => ∃ k : Nat, k ≤ n5 ∧ i = .int .i64 k ∧ SetAt Try.prog 3 4 wr w1.heap.size (np + k) (Busy (ports b.nodes) b.inner k) ∧ Boxed wr (w1.heap.size + 1) 159 (.map (some w1.heap.size)) ∧ wr.heap[D]? = some (.deferred (some [])) ∧ Below w1.heap.size w1 wr) (fun i _ => n5 - (intOf i).toNat)
      case atStart => exact ⟨0, Nat.zero_le _, rfl, HSet.out, HBxw.out, HK.out, HBb.out⟩
      case round =>
        obtain ⟨k, hk, rfl, hset, hbxw, hK, hB⟩ := hrel
        have hbw := hb1.trans (hB.mono hb1.size)
        have hsz := hB.size
        have hDl := lt_of_block hK
        by_cases hlt : k < n5
        · obtain ⟨b2, off, x, rfl, hbb, hx, c0, c1'⟩ := h5.get hlt
          have d0 := (hbw.cell (p := ⟨b2, off + k * 2, none⟩) hbb).trans c0
          have d1 := (hbw.cell (p := ⟨b2, off + k * 2 + 1, none⟩) hbb).trans c1'
          have hwx : (Lit.int .i64 x.link).wf = true := wf_wire HW.out (List.mem_of_getElem? hx)
          have hset1 := hset.kept (World.grownBy_alloc wr (.cells #[.string x.name, .int .i64 x.link] 114) none) (by simp)
          have hbx1 := hbxw.kept (World.grownBy_alloc wr (.cells #[.string x.name, .int .i64 x.link] 114) none) (by simp)
          have hB1 := hB.alloc hsz (.cells #[.string x.name, .int .i64 x.link] 114)
          have hK1 := (((Below.refl wr.heap.size wr).alloc (Nat.le_refl _) (.cells #[.string x.name, .int .i64 x.link] 114)).block D hDl).trans hK
          have c6 := hbxw.cell
          have hbl := hbxw.lt
          obtain ⟨z, hz⟩ : ∃ z, x.link = z := ⟨_, rfl⟩
          have HX := Lib.hid hx
          have HZ := Lib.hid hz
          rw [hz] at d1 hwx hset1 hbx1 hB1 hK1
          have HKey := Lib.hid (keyI hwx)
          have HS1 := Lib.hid hset1
          have HX1 := Lib.hid hbx1
          have HB1 := Lib.hid hB1
          have HK1 := Lib.hid hK1
          clear hx c0 c1' hz hwx hset hbxw hK hB hset1 hbx1 hB1 hK1
          go_wp2_with (at_mapUpdate; refine wpList_store_set _ rfl _ _ _ 159 rfl 3 4 lawI Try.underlying159 Try.underlying4 w1.heap.size (np + k) _ rfl HS1.out (by unfold maxLen; omega) _ true _ rfl rfl HKey.out trivial ?_; intro w3 hset3 hg3)
          have HS3 := Lib.hid hset3
          have HX3 := Lib.hid (HX1.out.kept hg3 (by simp))
          have HB3 := Lib.hid (HB1.out.grown hg3 (by simp; omega) (fun r e => by injection e with e; omega))
          have HK3 := Lib.hid ((hg3.block D (by simp; omega) (fun e => by injection e with e; omega)).trans HK1.out)
          clear hset3 hg3
          go_wp2_with fail
          go_roundw
          case rel => exact ⟨k + 1, by omega, by go_num, HS3.out.congr (fun l' => by
            constructor
            · rintro (⟨e, -⟩ | ⟨-, h⟩)
              · exact .inr ⟨k, x, by omega, HX.out, by rw [e, HZ.out]⟩
              · rcases h with h | ⟨j, y, hj, hy, e⟩
                · exact .inl h
                · exact .inr ⟨j, y, by omega, hy, e⟩
            · intro h
              by_cases e2 : l' = .int .i64 z
              · exact .inl ⟨e2, by first | rfl | trivial⟩
              · refine .inr ⟨e2, ?_⟩
                rcases h with h | ⟨j, y, hj, hy, e⟩
                · exact .inl h
                · refine .inr ⟨j, y, ?_, hy, e⟩
                  by_cases e3 : j = k
                  · subst e3
                    rw [HX.out] at hy
                    injection hy with hy
                    subst hy
                    rw [HZ.out] at e
                    exact absurd e e2
                  · omega), HX3.out, HK3.out, HB3.out⟩
          case measure => simp [intOf]; omega
        · obtain rfl : n5 = k := by omega
          have HSf := Lib.hid hset
          have HXf := Lib.hid hbxw
          have HKf := Lib.hid hK
          have HBf := Lib.hid hB
          obtain ⟨x0, x1, x2, x3, x4, x5⟩ := (HBx1.out.below hB hs1).get
          have hwwr : w.heap.size < wr.heap.size := by omega
          clear hset hbxw hK hB hbw
          go_wp2_with fail
          clear x0 x1 x2 x3 x4 x5
          rename World => wp
          go_loopw [11, 42] (fun v i wq => ∃ k : Nat, (k : Int) ≤ b.edges + n4 ∧ i = .int .i64 k ∧ Owns wq (w1.heap.size + 2) 3 v ((sel (idleP b) k).map (Value.int .i64)) ∧ SetAt Try.prog 3 4 wq w1.heap.size (np + n5) (Busy (ports b.nodes) b.inner n5) ∧ Boxed wq (w1.heap.size + 1) 159 (.map (some w1.heap.size)) ∧ wq.heap[D]? = some (.deferred (some [])) ∧ Below w1.heap.size w1 wq) (fun _ i _ => (b.edges + n4).toNat - (intOf i).toNat)
          case atStart =>
            exact ⟨0, by omega, rfl, ⟨by
              have := World.ownsRow_made (base := w1.heap.size + 2) (e := 3) (size := 1) wp #[] 0 (by omega) (by unfold maxLen; omega) (by simp)
              simpa [sel] using this, by simp⟩, HSf.out.kept (World.grownBy_alloc wp (.cells #[] 3) none) (by simp), HXf.out.kept (World.grownBy_alloc wp (.cells #[] 3) none) (by simp), (((Below.refl wp.heap.size wp).alloc (Nat.le_refl _) (.cells #[] 3)).block D hDl).trans HKf.out, HBf.out.alloc hsz _⟩
          case round =>
            obtain ⟨k, hk, rfl, ⟨hown, hnn⟩, hset, hbxw, hK, hB⟩ := hrel
            have hbw := hb1.trans (hB.mono hb1.size)
            have hszq := hB.size
            have hDlq := lt_of_block hK
            have hS := busy_iff b (k : Int)
            rw [l5] at hS
            by_cases hlt : (k : Int) < b.edges + n4
            · have hk25 : k < 25 := by omega
              have c6 := hbxw.cell
              have hbl := hbxw.lt
              cases hid : idleB b (k : Int) with
              | false =>
                have hlook := hset.run_true lawI Try.underlying159 Try.underlying4 (zeroB _) (keyI (wf_small k hk25)) trivial (hS.2 hid)
                have hsel := sel_no (P := idleP b) (k := k) hid
                have HOwn := Lib.hid (show Owns wr (w1.heap.size + 2) 3 _ _ from ⟨hown, hnn⟩)
                rw [← hsel] at HOwn
                have HS2 := Lib.hid hset
                have HX2 := Lib.hid hbxw
                have HK2 := Lib.hid hK
                have HB2 := Lib.hid hB
                clear hown hnn hset hbxw hK hB hS hsel hid hbw
                go_wp2_with fail
                go_roundw
                case rel => exact ⟨k + 1, by omega, by go_num, HOwn.out, HS2.out, HX2.out, HK2.out, HB2.out⟩
                case measure => simp [intOf]; omega
              | true =>
                have hlook := hset.run_false lawI Try.underlying159 Try.underlying4 (zeroB _) (keyI (wf_small k hk25)) trivial (fun h => by rw [hS.1 h] at hid; cases hid)
                have hsel := sel_yes (P := idleP b) (k := k) hid
                have hlen := sel_len (idleP b) k
                have hneD : ∀ g, (Value.ownBlock u11 = some g) → g ≠ D := fun g hg e => by
                  rcases hown.2 with ⟨e2, _⟩ | ⟨g2, cap, cur, e2, hbb, hh, _⟩
                  · exact hnn e2
                  · rw [e2] at hg
                    injection hg with hg
                    have hg' : g2 = D := hg.trans e
                    rw [hg', hK] at hh
                    cases hh
                have hln : ((sel (idleP b) k).map (Value.int .i64)).length = (sel (idleP b) k).length := List.length_map _
                rw [hln] at hown
                have HN := Lib.hid hnn
                obtain ⟨L, hL⟩ : ∃ L, (sel (idleP b) k) = L := ⟨_, rfl⟩
                rw [hL] at hown hlen hsel
                have HS0 := Lib.hid hsel
                obtain ⟨m, hm⟩ : ∃ m, L.length = m := ⟨_, rfl⟩
                rw [hm] at hown hlen
                have HM := Lib.hid hm
                obtain ⟨D', hD'⟩ : ∃ D', L.map (Value.int .i64) = D' := ⟨_, rfl⟩
                rw [hD'] at hown
                have HD := Lib.hid hD'
                have HS2 := Lib.hid (hset.kept (World.grownBy_alloc wr (.cells #[.int .i64 (k : Int)] 3) none) (by simp))
                have HX2 := Lib.hid (hbxw.kept (World.grownBy_alloc wr (.cells #[.int .i64 (k : Int)] 3) none) (by simp))
                have HK2 := Lib.hid ((((Below.refl wr.heap.size wr).alloc (Nat.le_refl _) (.cells #[.int .i64 (k : Int)] 3)).block D hDlq).trans hK)
                have HB2 := Lib.hid (hB.alloc hszq (.cells #[.int .i64 (k : Int)] 3))
                have HNe := Lib.hid hneD
                clear hln hnn hsel hL hm hD' hset hbxw hK hB hS hid hbw hneD
                go_wp2_with (at_builtin; refine wpList_append_own _ rfl _ _ 24 rfl (w1.heap.size + 2) 3 i0 (.int .i64 0) 1 8 Try.underlying24 HI.out.1 HI.out.2.1 HI.out.2.2.1 HI.out.2.2.2 rfl (by decide) _ _ _ rfl (hown.alloc _) ⟨wr.heap.size, 0, none⟩ 1 1 [.int .i64 (k : Int)] rfl rfl (cell_one_new _ _ _) (fun x hx => by simp at hx; subst hx; rfl) (by unfold maxLen; omega) (by omega) (by simp; omega) ?_; intro v1 w3 hown1 hgrow1 hnil1)
                have HB3 := Lib.hid (HB2.out.grown hgrow1 (by simp; omega) (fun j hj => by have := (hown.lt j hj).1; omega))
                have HS3 := Lib.hid (HS2.out.kept hgrow1 (fun e => by have := (hown.lt _ e.symm).1; omega))
                have HX3 := Lib.hid (HX2.out.kept hgrow1 (fun e => by have := (hown.lt _ e.symm).1; omega))
                have HK3 := Lib.hid ((hgrow1.block D (by simp; omega) (fun e => HNe.out D (by first | exact e | exact e.symm) rfl)).trans HK2.out)
                have HOwn := Lib.hid hown1
                have HN1 : Hid (v1 ≠ .slice none 0 0) := fun h => HN.out (hnil1.1 h).1
                clear hown1 hgrow1 hnil1 hown
                go_wp2_with fail
                go_roundw
                case rel => exact ⟨k + 1, by omega, by go_num, ⟨by
                  have := HOwn.out
                  rw [HS0.out, List.map_append, HD.out, List.map_cons, List.map_nil, List.length_append, List.length_singleton]
                  have e : D'.length = m := by rw [← HD.out, List.length_map]; exact HM.out
                  rw [e]
                  exact this, HN1.out⟩, HS3.out, HX3.out, HK3.out, HB3.out⟩
                case measure => simp [intOf]; omega
            · have hkE : (b.edges + n4).toNat = k := by omega
              rw [hkE] at HR
              have hres := (Res.of_owns (show Owns wr (w1.heap.size + 2) 3 _ _ from ⟨hown, hnn⟩)).wide (lo' := w.heap.size) (by omega) (Nat.le_refl _)
              have HO := Lib.hid (hres.stay (w' := wr.putObj D (.deferred none)) (fun b f c hr _ _ => World.putObj_heap_other (by
                intro e
                obtain ⟨cc, hh, _⟩ := hr
                rw [e, hK] at hh
                cases hh)))
              have HBq := Lib.hid hbw
              have HKq := Lib.hid hK
              have hDW : w.heap.size ≤ D := by omega
              clear hown hnn hset hbxw hK hB hS hbw hres
              go_wp2_with fail
              refine ⟨by simp, .inl ⟨_, _, rfl, run_takeDeferred HKq.out, ?_⟩⟩
              refine ⟨_, results_tmp2 rfl _ _ _, ?_⟩
              exact ⟨_, rfl, by rw [HR.out]; simpa using HO.out, HBq.out.trans (belowK_b (w := w) (Nat.le_refl _) _ D _ _ hDW HKq.out rfl rfl)⟩
    case stop =>
      rintro D c pre W' _ _ h _
      exact h.elim
end Go.Proofs.Ytfjgapkjpmkplaa.idm
end

section
namespace Go.Proofs.Ytfjgapkjpmkplaa.bs
open kit bg hi sig
open Go.RowKit
set_option linter.unusedVariables false
def Asc (zs : List Int) : Prop := ∀ (i j : Nat) a b, i ≤ j → zs[i]? = some a → zs[j]? = some b → a ≤ b
/-- the first place from which on all elements are at least x -/
def PosP (zs : List Int) (x : Int) (m : Nat) : Prop := m ≤ zs.length ∧ (∀ (t : Nat) a, t < m → zs[t]? = some a → a < x) ∧ ∀ (t : Nat) a, m ≤ t → zs[t]? = some a → x ≤ a

end Go.Proofs.Ytfjgapkjpmkplaa.bs
end

section
namespace Go.Proofs.Ytfjgapkjpmkplaa.ln
open kit bg sg opn strs only hb sig isig un over gn nm inn ht gd im pt marks eqs hc hi hw hn rs br bm bw cf lf ib isa lawb lw rt chd pts psp idl idi idm bs
open Go.RowKit
set_option linter.unusedVariables false

theorem sel_none {P : Nat → Bool} : ∀ k, (∀ i, i < k → P i = false) → sel P k = []
  | 0, _ => rfl
  | k + 1, h => by rw [sel_no (h k (Nat.lt_succ_self k))]; exact sel_none k (fun i hi => h i (by omega))
theorem sel_once {P : Nat → Bool} : ∀ k, (∀ j, j < k → P j = true → ∀ i, i < j → P i = false) → (sel P k).length ≤ 1
  | 0, _ => Nat.zero_le _
  | k + 1, h => by
    cases hp : P k with
    | false => rw [sel_no hp]; exact sel_once k (fun j hj => h j (by omega))
    | true => rw [sel_yes hp, sel_none k (h k (Nat.lt_succ_self k) hp)]; exact Nat.le_refl _
theorem sel_ex {P : Nat → Bool} : ∀ k, (sel P k).length ≠ 0 → ∃ i, i < k ∧ P i = true
  | 0, h => absurd rfl h
  | k + 1, h => by
    cases hp : P k with
    | false =>
      rw [sel_no hp] at h
      obtain ⟨i, hi, hq⟩ := sel_ex k h
      exact ⟨i, by omega, hq⟩
    | true => exact ⟨k, Nat.lt_succ_self k, hp⟩
theorem sel_pos {P : Nat → Bool} {i : Nat} (hp : P i = true) : ∀ k, i < k → 0 < (sel P k).length
  | 0, h => absurd h (Nat.not_lt_zero i)
  | k + 1, h => by
    cases hk : P k with
    | false =>
      rw [sel_no hk]
      have : i ≠ k := fun e => by rw [e, hk] at hp; cases hp
      exact sel_pos hp k (by omega)
    | true => rw [sel_yes hk, List.length_append]; simp
noncomputable def leanQ (b : Big) : Bool := decide ((sel (idleP b) b.edges.toNat).length = 0)
theorem sel_mem {P : Nat → Bool} {z : Int} : ∀ k, z ∈ sel P k → 0 ≤ z ∧ z < k
  | 0, h => by cases h
  | k + 1, h => by
    cases hp : P k with
    | false => rw [sel_no hp] at h; have := sel_mem k h; omega
    | true =>
      rw [sel_yes hp] at h
      rcases List.mem_append.1 h with h | h
      · have := sel_mem k h; omega
      · have := List.mem_singleton.1 h; omega
theorem sel_add (P : Nat → Bool) (k : Nat) : ∀ m, ∃ T, sel P (k + m) = sel P k ++ T ∧ ∀ z ∈ T, (k : Int) ≤ z
  | 0 => ⟨[], by simp, by simp⟩
  | m + 1 => by
    obtain ⟨T, h1, h2⟩ := sel_add P k m
    cases hp : P (k + m) with
    | false => exact ⟨T, by rw [← Nat.add_assoc, sel_no hp, h1], h2⟩
    | true =>
      refine ⟨T ++ [((k + m : Nat) : Int)], by rw [← Nat.add_assoc, sel_yes hp, h1, List.append_assoc], fun z hz => ?_⟩
      rcases List.mem_append.1 hz with h | h
      · exact h2 z h
      · have := List.mem_singleton.1 h; omega
theorem sel_asc (P : Nat → Bool) : ∀ k, Asc (sel P k)
  | 0 => fun i j a b _ h => by cases h
  | k + 1 => by
    cases hp : P k with
    | false => rw [sel_no hp]; exact sel_asc P k
    | true =>
      rw [sel_yes hp]
      intro i j a b hij ha hb
      have hjl := (List.getElem?_eq_some_iff.1 hb).1
      rw [List.length_append, List.length_singleton] at hjl
      by_cases hj : j < (sel P k).length
      · rw [List.getElem?_append_left hj] at hb
        rw [List.getElem?_append_left (by omega)] at ha
        exact sel_asc P k i j a b hij ha hb
      · obtain rfl : j = (sel P k).length := by omega
        rw [List.getElem?_append_right (Nat.le_refl _), Nat.sub_self] at hb
        injection hb with hb
        by_cases hi : i < (sel P k).length
        · rw [List.getElem?_append_left hi] at ha
          have := sel_mem k (List.mem_of_getElem? ha)
          omega
        · obtain rfl : i = (sel P k).length := by omega
          rw [List.getElem?_append_right (Nat.le_refl _), Nat.sub_self] at ha
          injection ha with ha
          omega
/-- where a search for k ends -/
theorem sel_pos_at {P : Nat → Bool} {k N m : Nat} (hk : k ≤ N) (h : PosP (sel P N) k m) : m = (sel P k).length ∧ (sel P N).take m = sel P k := by
  obtain ⟨T, h1, h2⟩ := sel_add P k (N - k)
  rw [show k + (N - k) = N by omega] at h1
  obtain ⟨p1, p2, p3⟩ := h
  have e : m = (sel P k).length := by
    by_cases ha : m < (sel P k).length
    · have e : (sel P k)[m]? = some ((sel P k)[m]) := List.getElem?_eq_getElem ha
      have := p3 m _ (Nat.le_refl _) (by rw [h1, List.getElem?_append_left ha]; exact e)
      have := sel_mem k (List.mem_of_getElem? e)
      omega
    · by_cases hb : (sel P k).length < m
      · have hl : (sel P k).length < (sel P N).length := by omega
        obtain ⟨a, e⟩ : ∃ a, (sel P N)[(sel P k).length]? = some a := ⟨_, List.getElem?_eq_getElem hl⟩
        have h3 := p2 _ _ hb e
        rw [h1, List.getElem?_append_right (Nat.le_refl _), Nat.sub_self] at e
        have := h2 _ (List.mem_of_getElem? e)
        omega
      · omega
  refine ⟨e, ?_⟩
  rw [e, h1, List.take_left']
  rfl
theorem lean_bad {b : Big} {k : Nat} (hk : (k : Int) < b.edges) (h : idleB b (k : Int) = true) : leanQ b = false := by
  unfold leanQ
  have := sel_pos (P := idleP b) (i := k) h b.edges.toNat (by omega)
  exact decide_eq_false (by omega)
theorem lean_end {b : Big} (h : ∀ k : Nat, (k : Int) < b.edges → idleB b (k : Int) = false) : leanQ b = true := by
  unfold leanQ
  rw [sel_none (P := idleP b) _ (fun i hi => h i (by omega))]
  rfl

theorem ints_take {w : World} {B n p : Nat} {A : Option Addr} {zs : List Int} (h : IntsAt w B A n zs) (hp : p ≤ n) : IntsAt w B A p (zs.take p) := by
  obtain ⟨h1, h2⟩ := h
  have hl : zs.length = n := by simpa using h1
  refine ⟨by simp; omega, fun h0 => ?_⟩
  obtain ⟨b, off, e, hb, hc⟩ := h2 (by omega)
  refine ⟨b, off, e, hb, fun k u hu => hc k u ?_⟩
  rw [List.getElem?_map] at hu ⊢
  obtain ⟨s, hs, rfl⟩ := Option.map_eq_some_iff.1 hu
  have hk : k < p := by have := (List.getElem?_eq_some_iff.1 hs).1; rw [List.length_take] at this; omega
  rw [List.getElem?_take_of_lt hk] at hs
  rw [hs]; rfl
noncomputable def ieR (cs : List Ctl) (b : Big) : List Int := if bigB cs b = true then sel (idleP b) b.edges.toNat else []
theorem ieR_no {cs : List Ctl} {b : Big} (h : bigB cs b = false) : ieR cs b = [] := by unfold ieR; rw [h]; rfl
theorem ieR_yes {cs : List Ctl} {b : Big} (h : bigB cs b = true) : ieR cs b = sel (idleP b) b.edges.toNat := by unfold ieR; rw [if_pos h]
end Go.Proofs.Ytfjgapkjpmkplaa.ln
end

section
namespace Go.Proofs.Ytfjgapkjpmkplaa.lep
open kit bg sg opn strs only hb sig isig un over gn nm inn ht gd im pt marks eqs hc hi hw hn rs br bm bw cf lf ib isa lawb lw rt chd pts psp idl bs ln rl ed
set_option linter.unusedVariables false
/-- a link without the idle edges before it -/
def leF (b : Big) (l : Int) : Int := l - ((sel (idleP b) (min l b.edges).toNat).length : Nat)
def leB (b : Big) : Big := ⟨(relB (leF b) b).roots, (relB (leF b) b).nodes, (relB (leF b) b).sites, b.edges - ((sel (idleP b) b.edges.toNat).length : Nat), (relB (leF b) b).outer, (relB (leF b) b).inner⟩
noncomputable def leR (cs : List Ctl) (b : Big) : Big := if bigB cs b = true then leB b else zeroBig
theorem leR_no {cs : List Ctl} {b : Big} (h : bigB cs b = false) : leR cs b = zeroBig := by unfold leR; rw [h]; rfl
theorem leR_yes {cs : List Ctl} {b : Big} (h : bigB cs b = true) : leR cs b = leB b := by unfold leR; rw [if_pos h]
theorem leF_pos {b : Big} {l : Int} {m : Nat} (hl : 0 ≤ l) (h : PosP (sel (idleP b) b.edges.toNat) l m) : l - (m : Int) = leF b l := by
  unfold leF
  by_cases hE : l ≤ b.edges
  · rw [show min l b.edges = l by omega]
    obtain ⟨k, rfl⟩ : ∃ k : Nat, l = k := ⟨l.toNat, by omega⟩
    rw [Int.toNat_natCast]
    obtain ⟨e, -⟩ := sel_pos_at (k := k) (by omega) h
    rw [e]
  · rw [show min l b.edges = b.edges by omega]
    obtain ⟨p1, p2, p3⟩ := h
    have : m = (sel (idleP b) b.edges.toNat).length := by
      by_cases ha : m < (sel (idleP b) b.edges.toNat).length
      · have e : (sel (idleP b) b.edges.toNat)[m]? = some ((sel (idleP b) b.edges.toNat)[m]) := List.getElem?_eq_getElem ha
        have h1 := p3 m _ (Nat.le_refl _) e
        have h2 := sel_mem _ (List.mem_of_getElem? e)
        omega
      · omega
    rw [this]
theorem relB_len (f : Int → Int) (b : Big) : bigMk (relB f b) = bigMk b := by
  unfold bigMk ndMk
  have h1 : (relB f b).nodes.length = b.nodes.length := by simp [relB]
  have h2 : sumBy (fun c : Nd => c.links.length) (relB f b).nodes = sumBy (fun c : Nd => c.links.length) b.nodes := by
    unfold relB
    generalize b.nodes = ns
    induction ns with
    | nil => rfl
    | cons x r ih =>
      have e : ∀ (y : Nd) (l : List Nd), sumBy (fun c : Nd => c.links.length) (y :: l) = y.links.length + sumBy (fun c : Nd => c.links.length) l := fun y l => by simp [sumBy]
      simp only [List.map_cons] at ih ⊢
      rw [e, e, ih, List.length_map]
  have h5 : (relB f b).inner.length = b.inner.length := by simp [relB]
  rw [h1, h2, h5]
  rfl
theorem big_mk {cs : List Ctl} {b : Big} (h : bigB cs b = true) : bigMk b ≤ 1048576 := by
  have z := sizes_of (big_of h).2.1
  have hl := links3 h
  unfold bigMk ndMk
  have hs : sumBy (fun c : Nd => c.links.length) b.nodes ≤ b.nodes.length * 3 := by
    revert hl
    generalize b.nodes = ns
    intro hl
    induction ns with
    | nil => simp [sumBy]
    | cons x r ih =>
      have e : ∀ (y : Nd) (l : List Nd), sumBy (fun c : Nd => c.links.length) (y :: l) = y.links.length + sumBy (fun c : Nd => c.links.length) l := fun y l => by simp [sumBy]
      rw [e, List.length_cons]
      have h1 := hl x (List.mem_cons_self ..)
      have h2 := ih (fun y hy => hl y (List.mem_cons_of_mem _ hy))
      omega
  omega
theorem le_len (cs : List Ctl) (b : Big) : bigMk (leR cs b) ≤ 1048576 := by
  cases hq : bigB cs b with
  | false => rw [leR_no hq]; exact by decide
  | true =>
    rw [leR_yes hq]
    have h1 := relB_len (leF b) b
    have h2 := big_mk hq
    have : bigMk (leB b) = bigMk (relB (leF b) b) := rfl
    omega
theorem big_link {cs : List Ctl} {b : Big} (h : bigB cs b = true) {x : Nd} (hx : x ∈ b.nodes) {l : Int} (hl : l ∈ x.links) : 0 ≤ l ∧ l ≤ 100 := by
  obtain ⟨k, hk⟩ := List.getElem?_of_mem hx
  obtain ⟨i, hi⟩ := List.getElem?_of_mem hl
  have h1 := ((big_of h).2.2.2.2.1 k x hk).2.2 i l hi
  have z := sizes_of (big_of h).2.1
  unfold linkB at h1
  have := inb_true h1
  omega
theorem big_wire {cs : List Ctl} {b : Big} (h : bigB cs b = true) {x : Wr} (hx : x ∈ b.inner) : 0 ≤ x.link ∧ x.link ≤ 100 := by
  obtain ⟨k, hk⟩ := List.getElem?_of_mem hx
  have h1 := (big_of h).2.2.2.2.2.2 k x hk
  have z := sizes_of (big_of h).2.1
  unfold linkB at h1
  have := inb_true h1
  omega
end Go.Proofs.Ytfjgapkjpmkplaa.lep
end
