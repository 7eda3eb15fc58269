/- Whether a list is a signature: impl.IsSignature. -/
import Derived.Test.YtifialdkjnmfoabSig
import Derived.Test.YtifialdkjnmfoabOnly
namespace Go.Proofs.Ytifialdkjnmfoab.isig
open kit bg sg sig mapb only
open Go.RowKit
open Go.Maps (Keyed)
set_option linter.unusedVariables false

set_option maxHeartbeats 400000 in
theorem isC_any (s : ByteArray) (p q : Int) (w : World) (hs : s.size ≤ maxLen) :
    Calls Try.prog 110 #[.agg #[.string s, .int .i64 p, .int .i64 q]] w (Post (ctlB ⟨s, p, q⟩) w) := by
  cases q0 : nameB s with
  | false =>
    have HB := Lib.hid (show ctlB ⟨s, p, q⟩ = false by unfold ctlB; rw [q0]; rfl)
    go_enter Try.func110, Try.ntmps110
    go_wp2_with (first | (go_at_call 115; refine (inm_any _ _ hs).mono ?_; rintro e w' ⟨rfl, rfl⟩) | (go_at_call 109; refine (win_any _ _ _ _).mono ?_; rintro e w' ⟨rfl, rfl⟩))
    go_ret
    exact ⟨by rw [HB.out]; rfl, (Below.refl _ _).alloc (Nat.le_refl _) _⟩
  | true =>
    cases q1 : inb p 0 3 with
    | false =>
      have HB := Lib.hid (show ctlB ⟨s, p, q⟩ = false by unfold ctlB; rw [q0, q1]; rfl)
      go_enter Try.func110, Try.ntmps110
      go_wp2_with (first | (go_at_call 115; refine (inm_any _ _ hs).mono ?_; rintro e w' ⟨rfl, rfl⟩) | (go_at_call 109; refine (win_any _ _ _ _).mono ?_; rintro e w' ⟨rfl, rfl⟩))
      go_ret
      exact ⟨by rw [HB.out]; rfl, (Below.refl _ _).alloc (Nat.le_refl _) _⟩
    | true =>
      have HB := Lib.hid (show ctlB ⟨s, p, q⟩ = inb q 0 2 by unfold ctlB; rw [q0, q1]; simp)
      go_enter Try.func110, Try.ntmps110
      go_wp2_with (first | (go_at_call 115; refine (inm_any _ _ hs).mono ?_; rintro e w' ⟨rfl, rfl⟩) | (go_at_call 109; refine (win_any _ _ _ _).mono ?_; rintro e w' ⟨rfl, rfl⟩))
      go_ret
      exact ⟨by rw [HB.out]; rfl, (Below.refl _ _).alloc (Nat.le_refl _) _⟩

theorem zeroB (w : World) : (zeroValue 4).run Try.prog w = .ok (.bool false) w := by kernel_rfl
theorem lawS : Keyed Try.prog 9 := Maps.string_keyed Try.underlying9

/-- the names of the first k Controls, as keys -/
def Seen (cs : List Ctl) (k : Nat) (l : Lit) : Prop := ∃ (j : Nat) (c : Ctl), j < k ∧ cs[j]? = some c ∧ l = .string c.name.data.toList
theorem seen_name {cs : List Ctl} {k : Nat} {s : ByteArray} (h : Seen cs k (.string s.data.toList)) : ∃ (j : Nat) (c : Ctl), j < k ∧ cs[j]? = some c ∧ c.name = s := by
  obtain ⟨j, c, hj, hc, e⟩ := h
  injection e with e
  exact ⟨j, c, hj, hc, Go.WideShapes.bytes_inj e.symm⟩

set_option maxRecDepth 20000 in
set_option maxHeartbeats 1600000 in
theorem isSig_any (A : Option Addr) (n c : Nat) (cs : List Ctl) (w : World) (B : Nat) (h : CtlsAt w B A n cs) (hB : B ≤ w.heap.size) (hn : n ≤ 1048576) (hs : ∀ c ∈ cs, c.name.size ≤ 1048576) :
    Calls Try.prog 83 #[.slice A n c] w (Post (sigB cs) w) := by
  have HL := Lib.hid h.1
  have HS := Lib.hid hs
  clear hs
  cases hq : inb (n : Int) 1 6 with
  | false =>
    have HB := Lib.hid (show sigB cs = false from sig_false (fun hp => by have := hp.2.2; rw [HL.out, hq] at this; cases this))
    go_enter Try.func83, Try.ntmps83
    go_wp2_with (go_at_call 109; refine (win_any _ _ _ _).mono ?_; rintro e w' ⟨rfl, rfl⟩)
    go_ret
    exact ⟨by rw [HB.out]; rfl, Below.refl _ _⟩
  | true =>
    have HQ := Lib.hid hq
    have hmm := @run_makeMap Try.prog
    go_enter Try.func83, Try.ntmps83
    go_wp2_with (go_at_call 109; refine (win_any _ _ _ _).mono ?_; rintro e w' ⟨rfl, rfl⟩)
    clear hmm hq
    go_loopw [13] (fun i wr => ∃ k : Nat, k ≤ n ∧ i = .int .i64 k ∧ SigK cs k ∧ SetAt Try.prog 9 4 wr w.heap.size k (Seen cs k) ∧ Below w.heap.size w wr) (fun i _ => n - (intOf i).toNat)
    case atStart => exact ⟨0, Nat.zero_le _, rfl, sigK_zero cs, (SetAt.made w _ _ _).congr (fun l => ⟨fun h => h.elim, fun ⟨j, _, hj, _⟩ => absurd hj (Nat.not_lt_zero j)⟩), (Below.refl _ _).alloc (Nat.le_refl _) _⟩
    case round =>
      obtain ⟨k, hk, rfl, hsk, hset, hb⟩ := hrel
      have HK := Lib.hid hsk
      clear hsk
      by_cases hlt : k < n
      · obtain ⟨b, off, x, rfl, hbb, hx, c0, c1, c2⟩ := h.get hlt
        have hxs : x.name.size ≤ maxLen := by have := HS.out x (List.mem_of_getElem? hx); unfold maxLen; omega
        have d0 := (hb.cell (p := ⟨b, off + k * 3, none⟩) (show b < w.heap.size by omega)).trans c0
        have d1 := (hb.cell (p := ⟨b, off + k * 3 + 1, none⟩) (show b < w.heap.size by omega)).trans c1
        have d2 := (hb.cell (p := ⟨b, off + k * 3 + 2, none⟩) (show b < w.heap.size by omega)).trans c2
        have HX := Lib.hid hx
        have hkey : keyOf Try.prog 9 (.string x.name) = some (.string x.name.data.toList) := Go.WideMaps.keyOf_string_mk Try.underlying9 hxs
        have hset1 := hset.kept (World.grownBy_alloc wr (.cells #[.string x.name, .int .i64 x.ports, .int .i64 x.kind] 62) none) (by simp)
        have hM := hset.lt
        have hb1 := hb.alloc hb.size (.cells #[.string x.name, .int .i64 x.ports, .int .i64 x.kind] 62)
        clear hx c0 c1 c2
        by_cases hin : Seen cs k (.string x.name.data.toList)
        · have hlook := hset1.run_true lawS Try.underlying125 Try.underlying4 (zeroB _) hkey trivial hin
          obtain ⟨j, y, hj, hy, he⟩ := seen_name hin
          have HT := Lib.hid (sig_twice hj HX.out hy he)
          have HB1 := Lib.hid hb1
          clear hset hset1 hin hy he hkey hb hb1
          go_wp2_with fail
          go_ret
          exact ⟨by rw [HT.out]; rfl, HB1.out⟩
        · have hlook := hset1.run_false lawS Try.underlying125 Try.underlying4 (zeroB _) hkey trivial hin
          have HN := Lib.hid hin
          have HKey := Lib.hid hkey
          have HSet := Lib.hid hset1
          have HB1 := Lib.hid hb1
          clear hset hset1 hin hkey hb hb1
          cases hc : ctlB x with
          | false =>
            have HBad := Lib.hid (sig_bad HX.out hc)
            have HC := Lib.hid hc
            clear hc
            go_wp2_with (go_at_call 110; refine (isC_any _ _ _ _ hxs).mono ?_; rintro e w2 ⟨rfl, hb2⟩; rw [HC.out])
            go_ret
            exact ⟨by rw [HBad.out]; rfl, HB1.out.trans (hb2.mono HB1.out.size)⟩
          | true =>
            have HC := Lib.hid hc
            have hrow := row_new wr #[.string x.name, .int .i64 x.ports, .int .i64 x.kind] 62 3 rfl
            have a0 : (wr.alloc (.cells #[.string x.name, .int .i64 x.ports, .int .i64 x.kind] 62)).cell? ⟨wr.heap.size, 0, none⟩ = some (.string x.name) := hrow.cell (by omega)
            have HA0 := Lib.hid a0
            clear hc hrow a0
            go_wp2_with (first | (go_at_call 110; refine (isC_any _ _ _ _ hxs).mono ?_; rintro e w2 ⟨rfl, hb2⟩; rw [HC.out]; have a1 := (hb2.cell (p := ⟨wr.heap.size, 0, none⟩) (by simp)).trans HA0.out; have HSet2 := Lib.hid (HSet.out.below hb2 (by simp; omega)); have HB2 := Lib.hid (HB1.out.trans (hb2.mono HB1.out.size)); clear hb2) | (at_mapUpdate; refine wpList_store_set _ rfl _ _ _ 125 rfl 9 4 lawS Try.underlying125 Try.underlying4 w.heap.size k (Seen cs k) rfl HSet2.out (by unfold maxLen; omega) _ true _ rfl rfl HKey.out trivial ?_; intro w3 hset3 hg3))
            have HSet3 := Lib.hid hset3
            have HB3 := Lib.hid (HB2.out.grown hg3 HB2.out.size (fun r e => by injection e with e; omega))
            clear hset3 hg3
            go_roundw
            case rel =>
              refine ⟨k + 1, by omega, by go_num, sigK_next HK.out HX.out HC.out (fun j y hj hy he => HN.out ⟨j, y, hj, hy, by rw [he]⟩), HSet3.out.congr (fun l => ?_), HB3.out⟩
              constructor
              · rintro (⟨rfl, -⟩ | ⟨-, j, y, hj, hy, e⟩)
                · exact ⟨k, x, by omega, HX.out, rfl⟩
                · exact ⟨j, y, by omega, hy, e⟩
              · rintro ⟨j, y, hj, hy, e⟩
                by_cases hjk : j = k
                · subst hjk
                  rw [HX.out] at hy
                  injection hy with hy
                  subst hy
                  exact .inl ⟨e, rfl⟩
                · by_cases hl : l = .string x.name.data.toList
                  · exact .inl ⟨hl, rfl⟩
                  · exact .inr ⟨hl, j, y, by omega, hy, e⟩
            case measure => simp [intOf]; omega
      · have HB := Lib.hid (sigK_all HK.out (by rw [HL.out]; omega))
        go_wp2_with fail
        go_ret
        exact ⟨by rw [HB.out, HL.out, HQ.out]; rfl, hb⟩
end Go.Proofs.Ytifialdkjnmfoab.isig
