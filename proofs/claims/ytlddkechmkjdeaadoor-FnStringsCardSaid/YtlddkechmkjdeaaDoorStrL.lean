/- FnStrings (card): whatever the code, FormatInt, ParseInt and AppendChecksum of impl answer as spec's, ParseInt reads what FormatInt writes, VerifyChecksum what AppendChecksum writes, and one changed byte is seen. Condition: three tables and two errors of the library read as their own text lays them (tied). -/
import Derived.Test.YtlddkechmkjdeaaDoorTam
import Derived.Test.YtlddkechmkjdeaaDoorDrawD
import Derived.Lib.ConvBytes
import Derived.Laws.IdiomStrings
import Derived.Test.YtlddkechmkjdeaaDoorCards
import Derived.Test.YtlddkechmkjdeaaDoorTie
import Derived.Deep.DeepHandedRow
import Derived.Deep.DeepWitnessRowRef
import Derived.LaidMore
import Derived.LaidHandle
import Derived.MakeChecks
import Derived.SevenTiedAt
import Derived.StillTailTactics
import Derived.IntWalk
namespace Go.Proofs.YtlddkechmkjdeaaDoor.fnStrings
open kit num fmts prs seals split vers dec hs curs draws drawd tams
open Go.ChangeShapes Go.WideShapes Go.ChangeAt Go.RowKit
open Go.ChangeMaps (open_string shut_string)
set_option linter.unusedVariables false

def atx (zs : List Int) (n : Nat) (i : Int) : Int := if i < n then zs.getD i.toNat 0 else (i * 7 + n) % 256
theorem at_any (A : Option Addr) (n c : Nat) (i : Int) (zs : List Int) (w : World) (h : SR w w.heap.size A n (zs.map (Value.int .u8))) (hz : ∀ z ∈ zs, 0 ≤ z ∧ z ≤ 255) (hn : n ≤ 65536) (h0 : 0 ≤ i) (h1 : i ≤ 100) :
    Calls Tryd.prog 19 #[.slice A n c, .int .i64 i] w fun e w' => e = .returned (.int .i64 (atx zs n i)) ∧ w' = w := by
  have HZ := Lib.hid hz
  clear hz
  by_cases hlt : i < n
  · obtain ⟨j, rfl⟩ := Int.eq_ofNat_of_zero_le h0
    have hjn : j < n := by omega
    obtain ⟨b, off, u, rfl, hb, hu, hc⟩ := h.get hjn
    rw [List.getElem?_map] at hu
    obtain ⟨z, hz1, rfl⟩ := Option.map_eq_some_iff.1 hu
    have hzb := HZ.out z (List.mem_of_getElem? hz1)
    have hz0 := hzb.1
    have hz255 := hzb.2
    have HE := Lib.hid (show atx zs n j = z by unfold atx; rw [if_pos hlt]; simp [List.getD, hz1])
    clear hu hz1 hzb
    go_enter Tryd.func19, Tryd.ntmps19
    go_wp2_with fail
    go_ret
    exact ⟨by rw [HE.out]; rfl, rfl⟩
  · have hge : (n : Int) ≤ i := by omega
    have hp0 : 0 ≤ (i * 7 + n) % 256 := Int.emod_nonneg _ (by omega)
    have hp1 : (i * 7 + n) % 256 < 256 := Int.emod_lt_of_pos _ (by omega)
    have HE := Lib.hid (show atx zs n i = (i * 7 + n) % 256 from if_neg hlt)
    go_enter Tryd.func19, Tryd.ntmps19
    go_wp2_with fail
    go_ret
    exact ⟨by rw [HE.out]; rfl, rfl⟩
theorem atx_bd {zs : List Int} {n : Nat} {i : Int} (hz : ∀ z ∈ zs, 0 ≤ z ∧ z ≤ 255) (hl : zs.length = n) (h0 : 0 ≤ i) : 0 ≤ atx zs n i ∧ atx zs n i ≤ 255 := by
  unfold atx
  split
  · have hm : zs.getD i.toNat 0 ∈ zs := by
      rw [List.getD, List.getElem?_eq_getElem (show i.toNat < zs.length by omega)]
      exact List.getElem_mem _
    exact hz _ hm
  · omega
theorem big_any (A : Option Addr) (n c : Nat) (w : World) : Calls Tryd.prog 8 #[.slice A n c] w fun e w' => e = .returned (.bool (decide (65536 < n))) ∧ w = w' := by
  by_cases h : 65536 < n
  · rw [decide_eq_true h]
    have h' : (65536 : Int) < n := by omega
    have hd : decide ((65536 : Int) < (n : Int)) = true := decide_eq_true h'
    go_enter Tryd.func8, Tryd.ntmps8
    go_wp2_with fail
    go_ret
    exact ⟨by first | rfl | rw [hd], rfl⟩
  · rw [decide_eq_false h]
    have h' : (n : Int) ≤ 65536 := by omega
    have hd : decide ((65536 : Int) < (n : Int)) = false := decide_eq_false (by omega)
    go_enter Tryd.func8, Tryd.ntmps8
    go_wp2_with fail
    go_ret
    exact ⟨by first | rfl | rw [hd], rfl⟩
theorem star : "*errors.errorString" = "*" ++ "errors.errorString" := by decide
theorem rowES (u : TypeId) (h : Tryd.prog.typeName? 3 u = some "*errors.errorString") : u = 86 :=
  typeName_ptr_named (nm := "errors.errorString") (by rw [← star]; kernel_rfl) (by kernel_rfl) (by decide) u (by rw [← star]; exact h)
theorem gES : Tryd.prog.globalNamed "strconv.ErrSyntax" = some 0 := by kernel_rfl
theorem gEST : (Tryd.prog.globals[0]?).map (·.type) = some 46 := by kernel_rfl
theorem gER : Tryd.prog.globalNamed "strconv.ErrRange" = some 1 := by kernel_rfl
theorem gERT : (Tryd.prog.globals[1]?).map (·.type) = some 46 := by kernel_rfl
theorem cES : Tryd.prog.cellsOf 88 = 1 := by kernel_rfl
theorem cS : Tryd.prog.cellsOf 9 = 1 := by kernel_rfl
theorem xor_byte (v : UInt8) (r : Int) (h0 : 0 ≤ r) (h1 : r ≤ 254) : ∃ x : UInt8, bits .xor .u8 v.toNat (1 + r) = x.toNat ∧ x ≠ v := by
  have e : bits .xor .u8 (v.toNat : Int) (1 + r) = IntKind.u8.wrap ((BitVec.ofInt 8 (v.toNat : Int) ^^^ BitVec.ofInt 8 (1 + r)).toNat : Int) := rfl
  have hv : BitVec.ofInt 8 (v.toNat : Int) = v.toBitVec := by
    apply BitVec.eq_of_toNat_eq
    have := v.toNat_lt
    rw [BitVec.toNat_ofInt]
    show _ = v.toNat
    omega
  obtain ⟨d, hd⟩ : ∃ d, BitVec.ofInt 8 (1 + r) = d := ⟨_, rfl⟩
  have hdn : d.toNat ≠ 0 := by
    rw [← hd, BitVec.toNat_ofInt]
    omega
  rw [hv, hd] at e
  refine ⟨⟨v.toBitVec ^^^ d⟩, ?_, ?_⟩
  · have hl := (v.toBitVec ^^^ d).isLt
    rw [e, IntKind.wrap_u8]
    show _ = (((v.toBitVec ^^^ d).toNat : Nat) : Int)
    omega
  · intro h
    have h2 : v.toBitVec ^^^ d = v.toBitVec := congrArg UInt8.toBitVec h
    have h3 : v.toBitVec ^^^ (v.toBitVec ^^^ d) = v.toBitVec ^^^ v.toBitVec := by rw [h2]
    rw [← BitVec.xor_assoc, BitVec.xor_self, BitVec.zero_xor] at h3
    rw [h3] at hdn
    exact hdn rfl
theorem set_below {w W : World} {g k : Nat} {x : Value} (h : Below w.heap.size w W) (hg : w.heap.size ≤ g) : Below w.heap.size w (W.setCell ⟨g, k, none⟩ x) :=
  h.setCell (show w.heap.size ≤ g from hg) _
theorem back_set {W : World} {g k cap : Nat} {y : ByteArray} {x : UInt8} (hk : k < y.size) (hc : ∀ j, j < y.size → W.cell? ⟨g, j, none⟩ = some (.int .u8 (y.data.toList.getD j 0).toNat)) :
    (convert 22 9 (.slice (some ⟨g, 0, none⟩) y.size cap)).run Tryd.prog (W.setCell ⟨g, k, none⟩ (.int .u8 x.toNat)) = .ok (.string ⟨(y.data.toList.set k x).toArray⟩) (W.setCell ⟨g, k, none⟩ (.int .u8 x.toNat)) := by
  have hlen : (y.data.toList.set k x).length = y.size := by simp
  have h := run_convert_bytes_back (P := Tryd.prog) (W.setCell ⟨g, k, none⟩ (.int .u8 x.toNat)) 22 9 5 ⟨g, 0, none⟩ cap (y.data.toList.set k x) Tryd.underlying22 Tryd.underlying5 Tryd.underlying9 (fun j hj => by
    rw [add_plain, Nat.zero_add, List.getElem_set]
    have hj2 : j < y.size := by omega
    by_cases e : k = j
    · subst e
      rw [if_pos rfl]
      exact World.cell?_setCell_same _ _ _ (hc k hk)
    · rw [if_neg e, World.cell?_setCell_other _ _ _ _ (by simp <;> omega), hc j hj2]
      rw [List.getD, List.getElem?_eq_getElem (by simpa using hj2)]
      rfl)
  rw [hlen] at h
  exact h
theorem bytes_below (w : World) (e : TypeId) (s : ByteArray) : Below w.heap.size w (Lib.bytesWorld w e s) :=
  ⟨rfl, rfl, rfl, by rw [Lib.bytesWorld_size]; omega, fun i hi => Lib.bytesWorld_at_old w e s i hi⟩
def Met (w : World) : Prop := Pow w ∧ Errs w "strconv.ErrSyntax" ∧ Errs w "strconv.ErrRange" ∧ Most w
theorem met_of {W : World} (hL : laidMetH Tryd.prog Rows.fnStringsRow.laid W) (hsh : W.ShapedOpen Tryd.prog) : Met W := by
  rw [MakeChecks.laidMetH_plain _ _ _ (by kernel_rfl)] at hL
  refine ⟨pow_of hL.tail.tail, ?_, ?_, most_of hsh⟩
  · obtain ⟨a0, s0, hv0, -, -, -⟩ := laid_sentinel hL.tail.tail.tail.tail gES gEST Tryd.underlying46 rowES Tryd.underlying86 Tryd.underlying88 rfl rfl Tryd.underlying9 cES cS
    exact ⟨_, _, hv0⟩
  · obtain ⟨a0, s0, hv0, -, -, -⟩ := laid_sentinel hL.tail.tail.tail gER gERT Tryd.underlying46 rowES Tryd.underlying86 Tryd.underlying88 rfl rfl Tryd.underlying9 cES cS
    exact ⟨_, _, hv0⟩
theorem var_lt {w : World} {n : String} {g : Nat} {cs : Array Value} (hg : Tryd.prog.globalNamed n = some g) (h : w.var? Tryd.prog n = some cs) : g < w.heap.size := by
  unfold World.var? at h
  simp only [hg, Option.bind_some] at h
  rcases Nat.lt_or_ge g w.heap.size with h' | h'
  · exact h'
  · simp [Array.getElem?_eq_none h'] at h
theorem Met.below {w w' : World} (h : Met w) (hb : Below w.heap.size w w') : Met w' := by
  obtain ⟨h1, ⟨t2, p2, h2⟩, ⟨t3, p3, h3⟩, h4⟩ := h
  exact ⟨h1.below hb (World.block_lt_of_cell? w _ (Lib.TabIs.cell h1 gPow 0 (by decide))), ⟨t2, p2, var?_below hb gES (var_lt gES h2) h2⟩, ⟨t3, p3, var?_below hb gER (var_lt gER h3) h3⟩, h4.below hb⟩

theorem fmt_form {z : Int} : ∃ t b, fmtV z = #[.string t, .bool b] ∧ t.size ≤ 7 ∧ (b = true → prsV t = #[.int .i64 z, .bool true]) := by
  by_cases h : -999999 ≤ z ∧ z ≤ 999999
  · exact ⟨_, true, if_pos h, by show (Lib.itoa z).toArray.size ≤ 7; simpa using itoa_len h.1 h.2, fun _ => prs_fmt h⟩
  · exact ⟨_, false, if_neg h, by decide, fun e => by cases e⟩

set_option maxRecDepth 20000 in
set_option maxHeartbeats 12800000 in
theorem walk (A : Option Addr) (n c : Nat) (zs : List Int) (w : World) (h : SRB .u8 w A n zs) (hsh : w.ShapedOpen Tryd.prog) (hL : laidMetH Tryd.prog Rows.fnStringsRow.laid w) :
    Calls Tryd.prog 3 #[.slice A n c] w fun e w' => e = .returned (.bool true) ∧ Below w.heap.size w w' := by
  have hz := h.bytes
  obtain ⟨hsr, hn, -⟩ := h
  have HZ := Lib.hid hz
  have HM := Lib.hid (met_of hL hsh)
  clear hz hL hsh
  by_cases hbig : 65536 < n
  · go_enter Tryd.func3, Tryd.ntmps3
    go_wp2_with fail
    refine (big_any _ _ _ _).mono ?_
    rw [decide_eq_true hbig]
    rintro e w1 ⟨rfl, rfl⟩
    go_wp2_with fail
    go_ret
    exact ⟨rfl, Below.refl _ _⟩
  · have hn2 : n ≤ 65536 := by omega
    go_enter Tryd.func3, Tryd.ntmps3
    go_wp2_with fail
    refine (big_any _ _ _ _).mono ?_
    rw [decide_eq_false hbig]
    rintro e w1 ⟨rfl, rfl⟩
    go_wp2_with fail
    refine (drawFmt_any _ _ _ zs _ hsr HZ.out hn2).mono ?_
    rintro e w1 ⟨z, rfl, hz0, hz1, hb1⟩
    obtain ⟨t, b, hf, htz, htp⟩ := fmt_form (z := z)
    have HF := Lib.hid (And.intro hf htp)
    clear hf htp
    go_wp2_with fail
    refine (implFmt_any z _ (HM.out.below hb1).1).mono ?_
    rw [HF.out.1]
    rintro e w2 ⟨rfl, hb2⟩
    have hb02 := hb1.trans (hb2.mono hb1.size)
    clear hb1 hb2
    go_wp2_with fail
    refine (specFmt_any z _).mono ?_
    rw [HF.out.1]
    rintro e w3 ⟨rfl, hd3⟩
    have hb03 := hb02.trans (hd3.below _)
    clear hb02 hd3
    go_wp2_with fail
    refine (drawPrs_any _ _ _ zs _ ((hsr.below hb03).wide hb03.size) HZ.out hn2).mono ?_
    rintro e w4 ⟨t2, rfl, ht2, hb4⟩
    have hb04 := hb03.trans (hb4.mono hb03.size)
    clear hb03 hb4
    obtain ⟨m2, b2, hp⟩ := prs_form t2
    have HPR := Lib.hid hp
    clear hp
    go_wp2_with fail
    refine (implPrs_any t2 _ (by omega) (HM.out.below hb04).1 (HM.out.below hb04).2.1 (HM.out.below hb04).2.2.1).mono ?_
    rw [HPR.out]
    rintro e w5 ⟨rfl, hb5⟩
    have hb05 := hb04.trans (hb5.mono hb04.size)
    clear hb04 hb5
    go_wp2_with fail
    refine (specPrs_any t2 _ (by omega)).mono ?_
    rw [HPR.out]
    rintro e w6 ⟨rfl, hd6⟩
    have hb06 := hb05.trans (hd6.below _)
    clear hb05 hd6
    go_wp2_with fail
    refine (drawApd_any _ _ _ zs _ ((hsr.below hb06).wide hb06.size) HZ.out hn2).mono ?_
    rintro e w7 ⟨x, rfl, hx, hb7⟩
    have hb07 := hb06.trans (hb7.mono hb06.size)
    clear hb06 hb7
    obtain ⟨y, sl, hy⟩ := apd_form x
    have HY := Lib.hid hy
    clear hy
    go_wp2_with fail
    refine (implApd_any x _ (by omega) (HM.out.below hb07).1).mono ?_
    rw [HY.out]
    rintro e w8 ⟨rfl, hb8⟩
    have hb08 := hb07.trans (hb8.mono hb07.size)
    clear hb07 hb8
    go_wp2_with fail
    refine (specApd_any x _ (by omega)).mono ?_
    rw [HY.out]
    rintro e w9 ⟨rfl, hd9⟩
    have hb09 := hb08.trans (hd9.below _)
    clear hb08 hd9
    go_wp2_with fail
    have hcase : (okS x ∧ y = seal_ x ∧ sl = true) ∨ (y = ⟨#[]⟩ ∧ sl = false) := by
      have h := HY.out
      by_cases ho : okS x
      · rw [apd_yes ho] at h
        injection h with h
        injection h with h1 h2
        injection h1 with h1
        injection h2 with h2 _
        injection h2 with h2
        exact .inl ⟨ho, h1.symm, h2.symm⟩
      · rw [apd_no ho] at h
        injection h with h
        injection h with h1 h2
        injection h1 with h1
        injection h2 with h2 _
        injection h2 with h2
        exact .inr ⟨h1.symm, h2.symm⟩
    clear HY
    rcases hcase with ⟨hok, hye, rfl⟩ | ⟨rfl, rfl⟩
    · have hva := ver_apd hok
      rw [← hye] at hva
      have hys : y.size ≤ 4000 := by rw [hye]; exact hok.2.2
      have hy1 : 1 ≤ y.size := by rw [hye, seal_size]; omega
      have HVA := Lib.hid hva
      have HOK := Lib.hid (And.intro hok hye)
      clear hva hok hye
      cases b with
      | true =>
        refine (implPrs_any t _ (by omega) (HM.out.below hb09).1 (HM.out.below hb09).2.1 (HM.out.below hb09).2.2.1).mono ?_
        rw [HF.out.2 rfl]
        rintro e w10 ⟨rfl, hb10⟩
        have hb010 := hb09.trans (hb10.mono hb09.size)
        clear hb09 hb10
        go_wp2_with fail
        refine (implVer_any y _ (by omega) (HM.out.below hb010).1 (HM.out.below hb010).2.2.2).mono ?_
        rw [HVA.out]
        rintro e w11 ⟨rfl, hb11⟩
        have hb011 := hb010.trans (hb11.mono hb010.size)
        clear hb010 hb11
        have hcv := Lib.run_convert_string_bytes (P := Tryd.prog) w11 9 22 5 y Tryd.underlying9 Tryd.underlying22 Tryd.underlying5
        have hsz12 := Lib.bytesWorld_size w11 5 y
        have HC12 := Lib.hid (fun j hj => Lib.bytesWorld_cell w11 5 y j hj)
        have HB12 := Lib.hid (bytes_below w11 5 y)
        have HR12 := Lib.hid (Lib.bytesWorld_at_new w11 5 y)
        obtain ⟨w12, hw12⟩ : ∃ w12, Lib.bytesWorld w11 5 y = w12 := ⟨_, rfl⟩
        obtain ⟨cap12, hcap12⟩ : ∃ cap12, grownCap w11 y.size 0 5 = cap12 := ⟨_, rfl⟩
        rw [hw12, hcap12] at hcv
        rw [hw12] at hsz12 HC12 HB12 HR12
        clear hw12 hcap12
        have hb012 := hb011.trans (HB12.out.mono hb011.size)
        go_wp2_with fail
        have CAT := fun i h0 h1 => at_any A n c i zs w12 ((hsr.below hb012).wide hb012.size) HZ.out hn2 h0 h1
        have hlz : zs.length = n := by simpa using hsr.len
        have C9 := CAT 9 (by omega) (by omega)
        have C10 := CAT 10 (by omega) (by omega)
        have hx9 := atx_bd (i := 9) HZ.out hlz (by omega)
        have hx10 := atx_bd (i := 10) HZ.out hlz (by omega)
        clear CAT hlz
        obtain ⟨x9, hx9e⟩ : ∃ x9, atx zs n 9 = x9 := ⟨_, rfl⟩
        obtain ⟨x10, hx10e⟩ : ∃ x10, atx zs n 10 = x10 := ⟨_, rfl⟩
        rw [hx9e] at C9 hx9
        rw [hx10e] at C10 hx10
        obtain ⟨h90, h91⟩ := hx9
        obtain ⟨h100, h101⟩ := hx10
        have HX10 := Lib.hid hx10e
        clear hx9e hx10e
        refine C9.mono ?_
        rintro e w13 ⟨rfl, rfl⟩
        have hk0 : 0 ≤ x9 % (y.size : Int) := Int.emod_nonneg _ (by omega)
        have hk1 : x9 % (y.size : Int) < y.size := Int.emod_lt_of_pos _ (by omega)
        obtain ⟨k, hk⟩ : ∃ k : Nat, x9 % (y.size : Int) = k := ⟨_, (Int.toNat_of_nonneg hk0).symm⟩
        rw [hk] at hk0 hk1
        have hk2 : k < y.size := by omega
        have hc12 := HC12.out k hk2
        have hf12 : w13.frozen? ⟨w11.heap.size, k, none⟩ = false := by
          have hs : (Lib.bytesCells w11 5 y).size ≥ y.size := by simp [Lib.bytesCells]
          simp only [World.frozen?, HR12.out]
          simp
          omega
        obtain ⟨v, hv⟩ : ∃ v, y.data.toList.getD k 0 = v := ⟨_, rfl⟩
        rw [hv] at hc12
        have HV := Lib.hid hv
        clear hv
        go_wp2_with fail
        rw [hk]
        obtain ⟨r, hr⟩ : ∃ r, x10 % 255 = r := ⟨_, rfl⟩
        have hr0 : 0 ≤ r ∧ r ≤ 254 := by omega
        have ht : x10.tmod 255 = r := by rw [Int.tmod_eq_emod_of_nonneg h100]; exact hr
        have hw1 : IntKind.i64.wrap (1 + r) = 1 + r := IntWalk.i64_in _ (by omega)
        have hw2 : IntKind.u8.wrap (1 + r) = 1 + r := by rw [IntKind.wrap_u8]; omega
        have hki : 0 ≤ (k : Int) := by omega
        have hkn : ((k : Int)).toNat = k := by omega
        clear hk
        have hb013 : Below w.heap.size w w13.drew := below_drewN hb012 1
        have hb1213 : w13.drew.heap.size = w11.heap.size + 1 := hsz12
        have C10' := at_any A n c 10 zs w13.drew ((hsr.below hb013).wide hb013.size) HZ.out hn2 (by omega) (by omega)
        have HR13 : Hid (w13.drew.heap[w11.heap.size]? = _) := HR12.out
        have HC13 : Hid (∀ j, j < y.size → w13.drew.cell? ⟨w11.heap.size, j, none⟩ = some (.int .u8 (y.data.toList.getD j 0).toNat)) := HC12.out
        have hc13 : w13.drew.cell? ⟨w11.heap.size, k, none⟩ = some (.int .u8 v.toNat) := hc12
        have hf13 : w13.drew.frozen? ⟨w11.heap.size, k, none⟩ = false := hf12
        rw [HX10.out] at C10'
        go_still_tail 13, (by kernel_rfl)
        change wpStill _ _ w13.drew (fun a' => wpList _ _ _ _ a' w13.drew) _ _
        obtain ⟨w14, hw14⟩ : ∃ w14, w13.drew = w14 := ⟨_, rfl⟩
        rw [hw14] at hb013 hb1213 C10' HR13 HC13 hc13 hf13 ⊢
        clear hw14 HR12 HC12 hc12 hf12
        still_call C10'
        repeat still_step
        refine wpStill_nil ?_
        obtain ⟨x', hx', hxv⟩ := xor_byte v r hr0.1 hr0.2
        rw [hx']
        have hcb := back_set (cap := cap12) (x := x') hk2 HC13.out
        have hb15 := set_below (k := k) (x := .int .u8 x'.toNat) hb013 hb011.size
        have hvb : verV ⟨(y.data.toList.set k x').toArray⟩ = #[.string ⟨#[]⟩, .bool false] := by
          have hye := HOK.out.2
          refine ver_bad k x' HOK.out.1 (by rw [← hye]; exact hk2) (fun e => ?_) (by rw [← hye])
          rw [← hye] at e
          have hv := HV.out
          rw [List.getD, e] at hv
          exact hxv hv
        have hs15 : (ByteArray.mk (y.data.toList.set k x').toArray).size = y.size := by
          show (y.data.toList.set k x').toArray.size = y.size
          simp
        obtain ⟨y2, hy2⟩ : ∃ y2, ByteArray.mk (y.data.toList.set k x').toArray = y2 := ⟨_, rfl⟩
        rw [hy2] at hcb hvb hs15
        have HVB := Lib.hid hvb
        clear hvb hy2 hx' hxv
        go_wp2_with fail
        refine (implVer_any y2 _ (by omega) (HM.out.below hb15).1 (HM.out.below hb15).2.2.2).mono ?_
        rw [HVB.out]
        rintro e w16 ⟨rfl, hb16⟩
        have hb016 := hb15.trans (hb16.mono hb15.size)
        go_wp2_with fail
        go_ret
        exact ⟨by simp, hb016⟩
      | false =>
        obtain ⟨m3, b3, hp3⟩ := prs_form t
        have HP3 := Lib.hid hp3
        clear hp3
        refine (implPrs_any t _ (by omega) (HM.out.below hb09).1 (HM.out.below hb09).2.1 (HM.out.below hb09).2.2.1).mono ?_
        rw [HP3.out]
        rintro e w10 ⟨rfl, hb10⟩
        have hb010 := hb09.trans (hb10.mono hb09.size)
        clear hb09 hb10
        go_wp2_with fail
        refine (implVer_any y _ (by omega) (HM.out.below hb010).1 (HM.out.below hb010).2.2.2).mono ?_
        rw [HVA.out]
        rintro e w11 ⟨rfl, hb11⟩
        have hb011 := hb010.trans (hb11.mono hb010.size)
        clear hb010 hb11
        have hcv := Lib.run_convert_string_bytes (P := Tryd.prog) w11 9 22 5 y Tryd.underlying9 Tryd.underlying22 Tryd.underlying5
        have hsz12 := Lib.bytesWorld_size w11 5 y
        have HC12 := Lib.hid (fun j hj => Lib.bytesWorld_cell w11 5 y j hj)
        have HB12 := Lib.hid (bytes_below w11 5 y)
        have HR12 := Lib.hid (Lib.bytesWorld_at_new w11 5 y)
        obtain ⟨w12, hw12⟩ : ∃ w12, Lib.bytesWorld w11 5 y = w12 := ⟨_, rfl⟩
        obtain ⟨cap12, hcap12⟩ : ∃ cap12, grownCap w11 y.size 0 5 = cap12 := ⟨_, rfl⟩
        rw [hw12, hcap12] at hcv
        rw [hw12] at hsz12 HC12 HB12 HR12
        clear hw12 hcap12
        have hb012 := hb011.trans (HB12.out.mono hb011.size)
        go_wp2_with fail
        have CAT := fun i h0 h1 => at_any A n c i zs w12 ((hsr.below hb012).wide hb012.size) HZ.out hn2 h0 h1
        have hlz : zs.length = n := by simpa using hsr.len
        have C9 := CAT 9 (by omega) (by omega)
        have C10 := CAT 10 (by omega) (by omega)
        have hx9 := atx_bd (i := 9) HZ.out hlz (by omega)
        have hx10 := atx_bd (i := 10) HZ.out hlz (by omega)
        clear CAT hlz
        obtain ⟨x9, hx9e⟩ : ∃ x9, atx zs n 9 = x9 := ⟨_, rfl⟩
        obtain ⟨x10, hx10e⟩ : ∃ x10, atx zs n 10 = x10 := ⟨_, rfl⟩
        rw [hx9e] at C9 hx9
        rw [hx10e] at C10 hx10
        obtain ⟨h90, h91⟩ := hx9
        obtain ⟨h100, h101⟩ := hx10
        have HX10 := Lib.hid hx10e
        clear hx9e hx10e
        refine C9.mono ?_
        rintro e w13 ⟨rfl, rfl⟩
        have hk0 : 0 ≤ x9 % (y.size : Int) := Int.emod_nonneg _ (by omega)
        have hk1 : x9 % (y.size : Int) < y.size := Int.emod_lt_of_pos _ (by omega)
        obtain ⟨k, hk⟩ : ∃ k : Nat, x9 % (y.size : Int) = k := ⟨_, (Int.toNat_of_nonneg hk0).symm⟩
        rw [hk] at hk0 hk1
        have hk2 : k < y.size := by omega
        have hc12 := HC12.out k hk2
        have hf12 : w13.frozen? ⟨w11.heap.size, k, none⟩ = false := by
          have hs : (Lib.bytesCells w11 5 y).size ≥ y.size := by simp [Lib.bytesCells]
          simp only [World.frozen?, HR12.out]
          simp
          omega
        obtain ⟨v, hv⟩ : ∃ v, y.data.toList.getD k 0 = v := ⟨_, rfl⟩
        rw [hv] at hc12
        have HV := Lib.hid hv
        clear hv
        go_wp2_with fail
        rw [hk]
        obtain ⟨r, hr⟩ : ∃ r, x10 % 255 = r := ⟨_, rfl⟩
        have hr0 : 0 ≤ r ∧ r ≤ 254 := by omega
        have ht : x10.tmod 255 = r := by rw [Int.tmod_eq_emod_of_nonneg h100]; exact hr
        have hw1 : IntKind.i64.wrap (1 + r) = 1 + r := IntWalk.i64_in _ (by omega)
        have hw2 : IntKind.u8.wrap (1 + r) = 1 + r := by rw [IntKind.wrap_u8]; omega
        have hki : 0 ≤ (k : Int) := by omega
        have hkn : ((k : Int)).toNat = k := by omega
        clear hk
        have hb013 : Below w.heap.size w w13.drew := below_drewN hb012 1
        have hb1213 : w13.drew.heap.size = w11.heap.size + 1 := hsz12
        have C10' := at_any A n c 10 zs w13.drew ((hsr.below hb013).wide hb013.size) HZ.out hn2 (by omega) (by omega)
        have HR13 : Hid (w13.drew.heap[w11.heap.size]? = _) := HR12.out
        have HC13 : Hid (∀ j, j < y.size → w13.drew.cell? ⟨w11.heap.size, j, none⟩ = some (.int .u8 (y.data.toList.getD j 0).toNat)) := HC12.out
        have hc13 : w13.drew.cell? ⟨w11.heap.size, k, none⟩ = some (.int .u8 v.toNat) := hc12
        have hf13 : w13.drew.frozen? ⟨w11.heap.size, k, none⟩ = false := hf12
        rw [HX10.out] at C10'
        go_still_tail 13, (by kernel_rfl)
        change wpStill _ _ w13.drew (fun a' => wpList _ _ _ _ a' w13.drew) _ _
        obtain ⟨w14, hw14⟩ : ∃ w14, w13.drew = w14 := ⟨_, rfl⟩
        rw [hw14] at hb013 hb1213 C10' HR13 HC13 hc13 hf13 ⊢
        clear hw14 HR12 HC12 hc12 hf12
        still_call C10'
        repeat still_step
        refine wpStill_nil ?_
        obtain ⟨x', hx', hxv⟩ := xor_byte v r hr0.1 hr0.2
        rw [hx']
        have hcb := back_set (cap := cap12) (x := x') hk2 HC13.out
        have hb15 := set_below (k := k) (x := .int .u8 x'.toNat) hb013 hb011.size
        have hvb : verV ⟨(y.data.toList.set k x').toArray⟩ = #[.string ⟨#[]⟩, .bool false] := by
          have hye := HOK.out.2
          refine ver_bad k x' HOK.out.1 (by rw [← hye]; exact hk2) (fun e => ?_) (by rw [← hye])
          rw [← hye] at e
          have hv := HV.out
          rw [List.getD, e] at hv
          exact hxv hv
        have hs15 : (ByteArray.mk (y.data.toList.set k x').toArray).size = y.size := by
          show (y.data.toList.set k x').toArray.size = y.size
          simp
        obtain ⟨y2, hy2⟩ : ∃ y2, ByteArray.mk (y.data.toList.set k x').toArray = y2 := ⟨_, rfl⟩
        rw [hy2] at hcb hvb hs15
        have HVB := Lib.hid hvb
        clear hvb hy2 hx' hxv
        go_wp2_with fail
        refine (implVer_any y2 _ (by omega) (HM.out.below hb15).1 (HM.out.below hb15).2.2.2).mono ?_
        rw [HVB.out]
        rintro e w16 ⟨rfl, hb16⟩
        have hb016 := hb15.trans (hb16.mono hb15.size)
        go_wp2_with fail
        go_ret
        exact ⟨by simp, hb016⟩
    · cases b with
      | true =>
        refine (implPrs_any t _ (by omega) (HM.out.below hb09).1 (HM.out.below hb09).2.1 (HM.out.below hb09).2.2.1).mono ?_
        rw [HF.out.2 rfl]
        rintro e w10 ⟨rfl, hb10⟩
        have hb010 := hb09.trans (hb10.mono hb09.size)
        clear hb09 hb10
        go_wp2_with fail
        go_ret
        exact ⟨rfl, hb010⟩
      | false =>
        obtain ⟨m3, b3, hp3⟩ := prs_form t
        have HP3 := Lib.hid hp3
        clear hp3
        refine (implPrs_any t _ (by omega) (HM.out.below hb09).1 (HM.out.below hb09).2.1 (HM.out.below hb09).2.2.1).mono ?_
        rw [HP3.out]
        rintro e w10 ⟨rfl, hb10⟩
        have hb010 := hb09.trans (hb10.mono hb09.size)
        clear hb09 hb10
        go_wp2_with fail
        go_ret
        exact ⟨rfl, hb010⟩
theorem own : ownKnob Tryd.prog.godebug = none := by kernel_rfl
theorem laidOut : laidOutB Tryd.prog = true := by kernel_rfl
theorem door_met (os : Os) : laidMetH Tryd.prog Rows.fnStringsRow.laid ((World.doorLaid Tryd.prog 2000 os).forCall (fun _ _ => 0) ⟨#[], #[.slice none 0 0], []⟩).memory :=
  laidMetH_of_parts3 (fuel := 8) (laidMet_of_run' 8 (by kernel_rfl) (by kernel_rfl)) (by kernel_rfl) (by kernel_rfl)
theorem reads (os : Os) {H : Type} (enc : TypeId × Value → H) : ∃ places, DataW.whole enc Tryd.prog ((World.doorLaid Tryd.prog 2000 os).forCall (fun _ _ => 0) ⟨#[], #[.slice none 0 0], []⟩).memory Tryd.f3.params.toList Rows.fnStringsSpec.vars false #[Value.slice none 0 0].toList 8 = some ([.nil], [], places) :=
  ⟨[], by kernel_rfl⟩

theorem contract (H : Type) (enc : TypeId × Value → H) (W : World) (base : Nat) (args : Array Value) (ds gs : List (DataW H)) (before : List MemPlace)
    (hval : ∀ (j : Nat) t v, Tryd.f3.params[j]? = some t → args[j]? = some v → Value.okWide Tryd.prog W .any base t v)
    (hW : DataW.Whole enc Tryd.prog Tryd.f3.params.toList Rows.fnStringsSpec.vars false W args.toList ds gs before) (hsh : W.ShapedOpen Tryd.prog) (hL : laidMetH Tryd.prog Rows.fnStringsRow.laid W) :
    Calls Tryd.prog 3 args W fun e W' => ∃ v, e = .returned v ∧ Rows.fnStringsSpec.post enc Tryd.prog Tryd.f3 false true false false W args v W' := by
  have hW' := hW
  obtain ⟨p, q, hA0, hV, rfl, hfz, hnd⟩ := hW
  have hA : DataW.TrodAll enc Tryd.prog W 0 (fun _ => true) true Tryd.f3.params.toList args.toList ds p := hA0
  rw [Tryd.params3] at hA hval
  obtain ⟨v0, vs0, d0, ds0, p0, q0, hargs, rfl, rfl, h0, r0⟩ := trodAll_cons hA
  obtain ⟨rfl, rfl, rfl⟩ := trodAll_nil r0
  obtain rfl : args = #[v0] := by cases args; simp_all
  obtain ⟨rfl, rfl⟩ := trodVars_none hV
  obtain ⟨a0, n0, c0, rfl⟩ := okWide_slice Tryd.underlying22 (hval 0 22 v0 rfl rfl)
  have k0 := h0
  have lt0 : ∀ x ∈ p0, x.block < W.heap.size := by obtain ⟨m, hm⟩ := k0; exact DataW.trod_lt m _ _ _ hm
  obtain ⟨z0, s0⟩ := sr_ints Tryd.underlying22 Tryd.underlying5 (by kernel_rfl) h0 lt0
  clear hA0
  refine (walk a0 n0 c0 z0 W s0 hsh hL).mono fun e W' ⟨he, hg⟩ => ?_
  subst he
  exact ⟨_, rfl, _, _, _, [], _, [], hW', trodAll_mk1 (shut_bool Tryd.underlying4 _), (trodAll_cons_mk (Below.trod laidOut (by kernel_rfl) (of_decide_eq_true (by kernel_rfl)) k0 hg lt0) trodAll_mk0), rfl, hg.frame _, fun h => by cases h⟩

set_option maxRecDepth 100000 in
theorem lifted (os : Os) (started : os.Started) (H : Type) (enc : TypeId × Value → H) (F : Stop.Interp) :
    ReturnsInHanded {} Tryd.checked os 3 .any ((OpenSpec.ofChange Rows.fnStringsSpec).preRow enc Tryd.prog Tryd.f3 Rows.fnStringsRow.domain false Rows.fnStringsRow.laid) (((OpenSpec.ofChange Rows.fnStringsSpec).at F).post enc Tryd.prog Tryd.f3 false true false false) := by
  obtain ⟨places, hx⟩ := reads os enc
  refine returnsInHanded_of_row (C := Tryd.checked) (s := OpenSpec.ofChange Rows.fnStringsSpec) own started (by kernel_rfl) Tryd.func3
    (witness_row_atRef (enc := enc) (C := Tryd.checked) false (World.doorLaid Tryd.prog 2000 os) #[.slice none 0 0] rfl (by kernel_rfl) (by kernel_rfl) (by kernel_rfl)
      (OpenSpec.preRow_of_cond 8 hx (by kernel_rfl) (fun k hk => by cases hk) (by kernel_rfl) (door_met os))) ?_
  intro W base args ds gs before hval hW _ _ _ hL hsh _
  exact contract H enc W base args ds gs before hval hW hsh hL

theorem said : Rows.FnStringsSaid :=
  OpenClaim.holds_of_cond 3 Tryd.f3 rfl rfl rfl rfl rfl rfl rfl ⟨rfl, rfl, rfl, rfl, rfl⟩ rfl rfl rfl rfl rfl (by kernel_rfl) Tryd.func3 (by kernel_rfl)
    (of_decide_eq_true (by kernel_rfl)) (by unfold Func.isWrapper; first | (rw [if_pos (by decide +kernel)]; kernel_rfl) | (rw [if_neg (by decide +kernel)]; exact ⟨rfl, rfl⟩))
    (fun os started H enc _ F => by rw [OpenClaim.pre_eq_preRow]; exact lifted os started H enc F)
theorem plain (f : FuncId) (fn : Func) (hf : Tryd.pinned.checked.prog.funcNamed "loop.example/g01082/laws.FnStrings" = some f) (hfn : Tryd.pinned.checked.prog.funcs[f]? = some fn) :
    true = Tryd.pinned.checked.prog.looks [] ∧ ∀ (j : Nat) t, fn.params[j]? = some t → Tryd.pinned.checked.prog.wantsStandIn t = false := by
  obtain rfl : f = 3 := Option.some.inj ((show Tryd.prog.funcNamed "loop.example/g01082/laws.FnStrings" = some 3 by kernel_rfl).symm.trans hf) |>.symm
  obtain rfl : fn = Tryd.f3 := (Option.some.inj (Tryd.func3.symm.trans hfn)).symm
  refine ⟨by kernel_rfl, fun j t ht => ?_⟩
  rw [Tryd.params3] at ht
  have hm : t ∈ [22] := by simpa using Array.mem_of_getElem? ht
  have hall : ([22].all fun u => !Tryd.prog.wantsStandIn u) = true := by kernel_rfl
  exact (show Tryd.prog.wantsStandIn t = false by simpa using List.all_eq_true.1 hall t hm)
theorem card : Rows.FnStringsCardSaid :=
  Claim7.holds_tied_plain_at .later [] _ _ _ _ said (fun _ h => by cases h) (by kernel_rfl) (fun _ h => by cases h) fnStrings_row_tie rfl ⟨rfl, rfl⟩ (by kernel_rfl) rfl plain (by kernel_rfl)

#print axioms card
end Go.Proofs.YtlddkechmkjdeaaDoor.fnStrings
