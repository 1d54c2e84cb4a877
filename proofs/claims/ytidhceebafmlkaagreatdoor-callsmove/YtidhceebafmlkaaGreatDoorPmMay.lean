import Derived.Test.YtidhceebafmlkaaGreatDoorTrGreat
import Derived.ProofKit
import Derived.OpenShut
import Derived.SizedLaws
import Derived.Deep.Slices
import Derived.Deep.SlicePairs
import Derived.Lib.SmallJoins
import Derived.Test.YtidhceebafmlkaaGreatDoorRows
import Derived.WalkKit
import Derived.WalkSpells
import Derived.MapKept
import Derived.Carry
import Derived.Deep.QuietTactic
import Derived.BigQuiet
import Derived.Test.YtidhceebafmlkaaGreatDoorTrList
namespace Go.Proofs.YtidhceebafmlkaaGreatDoor.Tr
open Go.ChangeShapes Go.WideShapes Go.ChangeAt Go.RowKit Go.Deep Cu
theorem cellsN : Tryz.prog.cellsOf 82 = 10 := by kernel_rfl
theorem cellsE : Tryz.prog.cellsOf 116 = 2 := by kernel_rfl
theorem cellsB : Tryz.prog.cellsOf 5 = 1 := by kernel_rfl
theorem cellsI : Tryz.prog.cellsOf 3 = 1 := by kernel_rfl
theorem cellsS : Tryz.prog.cellsOf 9 = 1 := by kernel_rfl
theorem cellsK : Tryz.prog.cellsOf 65 = 1 := by kernel_rfl
theorem cellsDB : Tryz.prog.cellsOf 30 = 1 := by kernel_rfl
theorem cellsLE : Tryz.prog.cellsOf 80 = 1 := by kernel_rfl
theorem bytesN : Tryz.prog.bytesOf 82 = 120 := by kernel_rfl
theorem bytesE : Tryz.prog.bytesOf 116 = 24 := by kernel_rfl
theorem bytesB : Tryz.prog.bytesOf 5 = 1 := by kernel_rfl
theorem u8_back (n : Int) (h : (Lit.int .u8 n).wf = true) : ∃ c : UInt8, n = (c.toNat : Int) := by
  have h2 : 0 ≤ n ∧ n < 256 := by
    simp [Lit.wf] at h
    have h1 : IntKind.u8.min = 0 := by decide
    have h2 : IntKind.u8.max = 255 := by decide
    rw [h1, h2] at h
    omega
  refine ⟨UInt8.ofNat n.toNat, ?_⟩
  simp
  omega
theorem open_bytes {H : Type} {enc : TypeId × Value → H} {W : World} {base fuel : Nat} {spare : Nat → Bool} {held : Bool} {cs : List Value} {x : DataW H × List MemPlace}
    (hf : DataW.trod enc Tryz.prog W base spare held fuel 30 cs = some x) (hz : ∀ n ∈ x.1.weights Tryz.prog 30, n ≤ reachBytes) :
    ∃ a len cap, cs = [.slice a len cap] ∧ ∃ l : Bs, By W a len cap l ∧ len ≤ reachBytes := by
  rcases open_slice Tryz.underlying30 hf with ⟨hcs, _⟩ | ⟨a', len, cap, m, n, D, Pl, hcs, _, hl, hm, hmm, hx, hc⟩
  · exact ⟨none, 0, 0, hcs, [], ⟨rfl, Nat.le_refl _, fun _ => ⟨rfl, rfl⟩, .inl rfl⟩, by simp [reachBytes]⟩
  · refine ⟨some a', len, cap, hcs, ?_⟩
    have hlm : len ≤ m := by rw [hmm]; split <;> omega
    have each : ∀ i, i < m → ∃ c : UInt8, W.cell? (a'.add i) = some (.int .u8 c.toNat) := by
      intro i hi
      obtain ⟨cs', h1, h2⟩ := hc i hi
      rw [cellsB] at h1
      obtain ⟨_, hlen, hcell⟩ := World.cells?_some h1
      match cs', hlen with
      | [u], _ =>
        obtain ⟨z, e0, _, w1⟩ := DataW.trod_int Tryz.underlying5 h2
        obtain ⟨c, rfl⟩ := u8_back z w1
        simp at e0
        subst e0
        refine ⟨c, ?_⟩
        have e := hcell 0 (by omega)
        rw [add_add] at e
        simpa using e
    haveI : Inhabited UInt8 := ⟨0⟩
    obtain ⟨q, hq⟩ := choose_lt each
    have hg : ∀ i, i < len → ((List.range len).map q).getD i 0 = q i := fun i hi => by simp [List.getD, hi]
    refine ⟨(List.range len).map q, ⟨by simp, hl, (by intro h; cases h), ?_⟩, ?_⟩
    · by_cases h0 : len = 0
      · exact .inl h0
      · right
        obtain ⟨b, off, spot⟩ := a'
        have hc0 := hq 0 (by omega)
        have hspot : spot = none := by simpa [Addr.add] using World.cell?_spot hc0
        subst hspot
        refine ⟨b, off, rfl, ?_, fun i hi => ?_⟩
        · simpa [Addr.add] using World.block_lt_of_cell? W _ hc0
        · have := hq i (by omega)
          rw [show (⟨b, off, none⟩ : Addr).add i = ⟨b, off + i, none⟩ by unfold Addr.add; split <;> simp_all] at this
          rw [hg i hi]; exact this
    · have hz' := hz
      rw [hx] at hz'
      have := hz' ((len + (m - len)) * Tryz.prog.bytesOf 5) (by simp [DataW.weights, Tryz.underlying30])
      rw [bytesB] at this
      omega
theorem weightsAll_mem {H : Type} {P : Program} {e : TypeId} {d : DataW H} {n : Nat} : ∀ {l : List (DataW H)}, d ∈ l → n ∈ d.weights P e → n ∈ DataW.weightsAll P e l
  | [], h, _ => by simp at h
  | x :: l, h, hn => by
    simp only [DataW.weightsAll, List.mem_append]
    rcases List.mem_cons.1 h with rfl | h
    · exact .inl hn
    · exact .inr (weightsAll_mem h hn)
theorem addN (b off j : Nat) : (⟨b, off, none⟩ : Addr).add j = ⟨b, off + j, none⟩ := by unfold Addr.add; split <;> simp_all
theorem open_entries {H : Type} {enc : TypeId × Value → H} {W : World} {base fuel : Nat} {spare : Nat → Bool} {held : Bool} {cs : List Value} {x : DataW H × List MemPlace}
    (hf : DataW.trod enc Tryz.prog W base spare held fuel 80 cs = some x) (hz : ∀ n ∈ x.1.weights Tryz.prog 80, n ≤ reachBytes) :
    ∃ a len cap, cs = [.slice a len cap] ∧ ∃ l : List En, Eg W a len cap l ∧ len ≤ reachBytes ∧ ∀ i, i < len → (en l i).name.size ≤ reachBytes := by
  rcases open_slice_pairs Tryz.underlying80 Tryz.underlying116 cellsE rfl rfl cellsS cellsI hf with ⟨hcs, _⟩ | ⟨a', len, cap, m, n, V0, V1, D0, D1, P0, P1, hcs, _, hl, hm, hmm, hx, hc⟩
  · exact ⟨none, 0, 0, hcs, [], ⟨rfl, Nat.le_refl _, fun _ => ⟨rfl, rfl⟩, .inl rfl⟩, by simp [reachBytes], fun i hi => by omega⟩
  · refine ⟨some a', len, cap, hcs, ?_⟩
    have hlm : len ≤ m := by rw [hmm]; split <;> omega
    have each : ∀ i, i < m → ∃ q : En, V0 i = .string q.name ∧ V1 i = .int .i64 q.node ∧ D0 i = .lit (.string q.name.data.toList) := by
      intro i hi
      obtain ⟨_, _, h0, h1⟩ := hc i hi
      obtain ⟨k, e0, _, _⟩ := DataW.trod_int Tryz.underlying3 h1
      obtain ⟨s, e1, e2, _⟩ := DataW.trod_string Tryz.underlying9 h0
      simp at e0 e1 e2
      exact ⟨⟨s, k⟩, e1, e0, e2.1⟩
    haveI : Inhabited En := ⟨ez⟩
    obtain ⟨q, hq⟩ := choose_lt each
    have hz' := hz
    rw [hx] at hz'
    have hg : ∀ i, i < len → en ((List.range len).map q) i = q i := fun i hi => by simp [en, List.getD, hi]
    refine ⟨(List.range len).map q, ⟨by simp, hl, (by intro h; cases h), ?_⟩, ?_, ?_⟩
    · by_cases h0 : len = 0
      · exact .inl h0
      · right
        obtain ⟨b, off, spot⟩ := a'
        have hc0 := (hc 0 (by omega)).1
        have hspot : spot = none := by simpa [Addr.add] using World.cell?_spot hc0
        subst hspot
        refine ⟨b, off, rfl, ?_, fun i hi => ?_⟩
        · simpa [Addr.add] using World.block_lt_of_cell? W _ hc0
        · obtain ⟨g0, g1, _, _⟩ := hc i (by omega)
          obtain ⟨e0, e1, _⟩ := hq i (by omega)
          rw [e0] at g0
          rw [e1] at g1
          rw [addN] at g0 g1
          rw [hg i hi]
          exact ⟨g0, g1⟩
    · have := hz' ((len + (m - len)) * Tryz.prog.bytesOf 116) (by simp [DataW.weights, Tryz.underlying80])
      rw [bytesE] at this
      omega
    · intro i hi
      obtain ⟨_, _, e2⟩ := hq i (by omega)
      rw [hg i hi]
      have := hz' (q i).name.data.toList.length (by
        simp only [DataW.weights, Tryz.underlying80]
        refine List.mem_cons_of_mem _ (List.mem_append_left _ (weightsAll_mem (d := .agg [D0 i, D1 i]) (List.mem_map.2 ⟨i, List.mem_range.2 hi, rfl⟩) ?_))
        simp [DataW.weights, Tryz.underlying116, DataW.weightsEach, e2])
      simpa using this
theorem reach_le : reachBytes ≤ 281474976710656 := by decide
theorem open_node {H : Type} {enc : TypeId × Value → H} {W : World} {base fuel : Nat} {spare : Nat → Bool} {held : Bool} {cs : List Value} {x : DataW H × List MemPlace} (hl : cs.length = 10)
    (hf : DataW.trod enc Tryz.prog W base spare held fuel 82 cs = some x) (hz : ∀ n ∈ x.1.weights Tryz.prog 82, n ≤ reachBytes) :
    ∃ (n : Nd) (da : Option Addr) (dc : Nat) (la : Option Addr) (lc : Nat), cs = nc n (.slice da n.data.length dc) (.slice la n.list.length lc) ∧ By W da n.data.length dc n.data ∧ Eg W la n.list.length lc n.list ∧ Rb n := by
  match cs, hl with
  | [c0, c1, c2, c3, c4, c5, c6, c7, c8, c9], _ =>
    obtain ⟨xs, n, _, hx, hl, hlen, hfl⟩ := DataW.trod_struct Tryz.underlying82 hf
    match xs, hlen with
    | [y0, y1, y2, y3, y4, y5, y6, y7, y8, y9], _ =>
      have h0 := hfl 0 _ rfl
      have h1 := hfl 1 _ rfl
      have h2 := hfl 2 _ rfl
      have h3 := hfl 3 _ rfl
      have h4 := hfl 4 _ rfl
      have h5 := hfl 5 _ rfl
      have h6 := hfl 6 _ rfl
      have h7 := hfl 7 _ rfl
      have h8 := hfl 8 _ rfl
      have h9 := hfl 9 _ rfl
      have hz6 : ∀ n ∈ y6.1.weights Tryz.prog 30, n ≤ reachBytes := fun k hk => hz k (by
        rw [hx]; simp only [DataW.weights, Tryz.underlying82, DataW.weightsEach, List.map_cons, List.mem_append]; simp [hk])
      have hz7 : ∀ n ∈ y7.1.weights Tryz.prog 9, n ≤ reachBytes := fun k hk => hz k (by
        rw [hx]; simp only [DataW.weights, Tryz.underlying82, DataW.weightsEach, List.map_cons, List.mem_append]; simp [hk])
      have hz8 : ∀ n ∈ y8.1.weights Tryz.prog 80, n ≤ reachBytes := fun k hk => hz k (by
        rw [hx]; simp only [DataW.weights, Tryz.underlying82, DataW.weightsEach, List.map_cons, List.mem_append]; simp [hk])
      obtain ⟨a0, e0, _, w0⟩ := DataW.trod_int Tryz.underlying65 h0
      obtain ⟨a1, e1, _, _⟩ := DataW.trod_int Tryz.underlying3 h1
      obtain ⟨a2, e2, _, _⟩ := DataW.trod_int Tryz.underlying3 h2
      obtain ⟨a3, e3, _, _⟩ := DataW.trod_int Tryz.underlying3 h3
      obtain ⟨a4, e4, _, _⟩ := DataW.trod_int Tryz.underlying3 h4
      obtain ⟨a5, e5, _, _⟩ := DataW.trod_int Tryz.underlying3 h5
      obtain ⟨da, dl, dc, e6, db, hby, hdl⟩ := open_bytes (x := y6) h6 hz6
      obtain ⟨tg, e7, t7, _⟩ := DataW.trod_string Tryz.underlying9 h7
      obtain ⟨la, ll, lc, e8, es, heg, hll, hnm⟩ := open_entries (x := y8) h8 hz8
      obtain ⟨a9, e9, _, _⟩ := DataW.trod_int Tryz.underlying3 h9
      obtain ⟨kd, rfl⟩ := u8_back a0 w0
      simp [cellsI, cellsK, cellsS, cellsDB, cellsLE] at e0 e1 e2 e3 e4 e5 e6 e7 e8 e9
      subst e0 e1 e2 e3 e4 e5 e6 e7 e8 e9
      obtain rfl := hby.len
      obtain rfl := heg.len
      refine ⟨⟨kd, a1, a2, a3, a4, a5, db, tg, es, a9⟩, da, dc, la, lc, rfl, hby, heg, ⟨?_, Nat.le_trans hdl reach_le, Nat.le_trans hll reach_le, fun i hi => Nat.le_trans (hnm i hi) reach_le⟩⟩
      have := hz7 tg.data.toList.length (by rw [t7]; simp [DataW.weights])
      exact Nat.le_trans this reach_le
theorem open_nodes {H : Type} {enc : TypeId × Value → H} {W : World} {base fuel : Nat} {spare : Nat → Bool} {held : Bool} {cs : List Value} {x : DataW H × List MemPlace}
    (hf : DataW.trod enc Tryz.prog W base spare held fuel 22 cs = some x) (hz : ∀ n ∈ x.1.weights Tryz.prog 22, n ≤ reachBytes) :
    ∃ a len cap, cs = [.slice a len cap] ∧ ∃ ns : List Nd, Ng W a len cap ns ∧ len ≤ 281474976710656 ∧ ∀ i, i < len → Rb (nd ns i) := by
  rcases open_slice Tryz.underlying22 hf with ⟨hcs, _⟩ | ⟨a', len, cap, m, n, D, Pl, hcs, _, hl, hm, hmm, hx, hc⟩
  · exact ⟨none, 0, 0, hcs, [], ⟨rfl, Nat.le_refl _, fun _ => ⟨rfl, rfl⟩, .inl rfl⟩, by omega, fun i hi => by omega⟩
  · refine ⟨some a', len, cap, hcs, ?_⟩
    have hlm : len ≤ m := by rw [hmm]; split <;> omega
    have hz' := hz
    rw [hx] at hz'
    have each : ∀ i, i < len → ∃ q : Nd × Option Addr × Nat × Option Addr × Nat, (∀ j u, (nc q.1 (.slice q.2.1 q.1.data.length q.2.2.1) (.slice q.2.2.2.1 q.1.list.length q.2.2.2.2))[j]? = some u → W.cell? (a'.add (i * 10 + j)) = some u) ∧ By W q.2.1 q.1.data.length q.2.2.1 q.1.data ∧ Eg W q.2.2.2.1 q.1.list.length q.2.2.2.2 q.1.list ∧ Rb q.1 := by
      intro i hi
      obtain ⟨cs', h1, h2⟩ := hc i (by omega)
      rw [cellsN] at h1
      obtain ⟨_, hlen, hcell⟩ := World.cells?_some h1
      obtain ⟨q, da, dc, la, lc, rfl, hb, he, hr⟩ := open_node hlen h2 (fun k hk => hz' k (by
        simp only [DataW.weights, Tryz.underlying22]
        exact List.mem_cons_of_mem _ (List.mem_append_left _ (weightsAll_mem (d := D i) (List.mem_map.2 ⟨i, List.mem_range.2 hi, rfl⟩) hk))))
      refine ⟨(q, da, dc, la, lc), fun j u hj => ?_, hb, he, hr⟩
      have hj10 : j < 10 := (List.getElem?_eq_some_iff.1 hj).1
      have e := hcell j (by omega)
      rw [add_add] at e
      rw [e]; exact hj
    haveI : Inhabited (Nd × Option Addr × Nat × Option Addr × Nat) := ⟨(nz, none, 0, none, 0)⟩
    obtain ⟨q, hq⟩ := choose_lt each
    have hg : ∀ i, i < len → nd ((List.range len).map fun i => (q i).1) i = (q i).1 := fun i hi => by simp [nd, List.getD, hi]
    refine ⟨(List.range len).map fun i => (q i).1, ⟨by simp, hl, (by intro h; cases h), ?_⟩, ?_, fun i hi => by rw [hg i hi]; exact (hq i hi).2.2.2⟩
    · by_cases h0 : len = 0
      · exact .inl h0
      · right
        obtain ⟨b, off, spot⟩ := a'
        have hc0 := (hq 0 (by omega)).1 0 _ rfl
        have hspot : spot = none := by simpa [Addr.add] using World.cell?_spot hc0
        subst hspot
        refine ⟨b, off, rfl, ?_, fun i hi => ?_⟩
        · simpa [Addr.add] using World.block_lt_of_cell? W _ hc0
        · obtain ⟨g1, g2, g3, _⟩ := hq i hi
          rw [hg i hi]
          refine ⟨(q i).2.1, (q i).2.2.1, (q i).2.2.2.1, (q i).2.2.2.2, .at fun j u hj => ?_, g2, g3⟩
          have := g1 j u hj
          rw [addN] at this
          rw [Nat.add_assoc]; exact this
    · have := hz' ((len + (m - len)) * Tryz.prog.bytesOf 82) (by simp [DataW.weights, Tryz.underlying22])
      rw [bytesN] at this
      have := reach_le
      omega
end Go.Proofs.YtidhceebafmlkaaGreatDoor.Tr

namespace Go.Proofs.YtidhceebafmlkaaGreatDoor.Mo
open Go.RowKit
abbrev Bs := List UInt8
structure Ch where
  who : Int
  op : UInt8
  bits : Int
  cp : UInt8
  dirs : Bool
def clr (a b : Nat) : Nat := a ^^^ (a &&& b)
def m9 (x : Int) : Nat := (x % 512).toNat
def wb (who : Int) (i : Nat) : Bool := decide (who / 2 ^ i % 2 = 1)
def sp (w0 w1 w2 : Bool) (b : Nat) : Nat := (if w0 then b else 0) ||| (if w1 then b * 8 else 0) ||| (if w2 then b * 64 else 0)
def spreadP (who : Int) (b : Nat) : Nat := sp (wb who 0) (wb who 1) (wb who 2) b
def sel (w0 w1 w2 : Bool) (p : Nat) : Bool := if p = 0 then w0 else if p = 1 then w1 else if p = 2 then w2 else false
def partP (x : Int) (c : UInt8) : Nat := if c = 117 then (x / 64 % 8).toNat else if c = 103 then (x / 8 % 8).toNat else if c = 111 then (x % 8).toNat else 0
def reachP (who mask : Int) : Nat := if who % 8 = 0 then clr 511 (m9 mask) else spreadP who 7
def anyX (m : Nat) : Bool := m &&& 73 != 0
def bitsP (c : Ch) (m : Nat) (dir : Bool) : Nat := ((c.bits % 8).toNat ||| partP m c.cp) ||| (if c.dirs && (dir || anyX m) then 1 else 0)
def doP (op : UInt8) (m b r : Nat) : Nat := if op = 43 then m ||| b else if op = 45 then clr m b else if op = 61 then clr m r ||| b else m
def chgP (c : Ch) (m : Nat) (mask : Int) (dir : Bool) : Nat := doP c.op m (spreadP 7 (bitsP c m dir) &&& reachP c.who mask) (reachP c.who mask)
def applyP : List Ch → Nat → Int → Bool → Nat
  | [], m, _, _ => m
  | c :: l, m, mask, dir => applyP l (chgP c m mask dir) mask dir
theorem ret_i {a b : Int} (h : a = b) : Ending.returned (.int .i64 a) = .returned (.int .i64 b) := by rw [h]
theorem toNat_ofInt_mod (x : Int) (k : Nat) (hk : k ≤ 64) : (BitVec.ofInt 64 x).toNat % 2 ^ k = (x % 2 ^ k).toNat := by
  rw [BitVec.toNat_ofInt]
  have h1 : ((x % (2 ^ 64 : Nat)).toNat : Int) = x % (2 ^ 64 : Nat) := Int.toNat_of_nonneg (Int.emod_nonneg _ (by decide))
  have hd : (2 ^ k : Int) ∣ ((2 ^ 64 : Nat) : Int) := by exact_mod_cast Nat.pow_dvd_pow 2 hk
  generalize (x % (2 ^ 64 : Nat)).toNat = y at *
  have h3 : 0 ≤ x % 2 ^ k := Int.emod_nonneg _ (by have : (0:Int) < 2 ^ k := Int.pow_pos (by decide); omega)
  have h2 : ((y % 2 ^ k : Nat) : Int) = x % 2 ^ k := by
    rw [Int.natCast_emod, h1, Int.natCast_pow]
    exact Int.emod_emod_of_dvd _ hd
  omega
theorem bits_mask_k (x : Int) (k : Nat) (hk : k ≤ 62) : bits .and .i64 x ((2 ^ k - 1 : Nat) : Int) = x % 2 ^ k := by
  show IntKind.i64.wrap ((BitVec.ofInt 64 x &&& BitVec.ofInt 64 ((2 ^ k - 1 : Nat) : Int)).toNat : Int) = _
  have h62 : (2 : Nat) ^ k ≤ 2 ^ 62 := Nat.pow_le_pow_right (by decide) hk
  have e : (BitVec.ofInt 64 x &&& BitVec.ofInt 64 ((2 ^ k - 1 : Nat) : Int)).toNat = (x % 2 ^ k).toNat := by
    rw [BitVec.toNat_and, BitVec.ofInt_natCast, BitVec.toNat_ofNat, Nat.mod_eq_of_lt (a := 2 ^ k - 1) (by omega), Nat.and_two_pow_sub_one_eq_mod, toNat_ofInt_mod x k (by omega)]
  rw [e]
  have h3 : 0 ≤ x % 2 ^ k := Int.emod_nonneg _ (by have : (0:Int) < 2 ^ k := Int.pow_pos (by decide); omega)
  have h4 : x % 2 ^ k < 2 ^ k := Int.emod_lt_of_pos _ (Int.pow_pos (by decide))
  have h5 : ((2 : Int) ^ k) ≤ 2 ^ 62 := by exact_mod_cast h62
  rw [Int.toNat_of_nonneg h3]
  simp only [IntKind.wrap, IntKind.signed, IntKind.bits]
  simp
  omega
theorem and7 (x : Int) : bits .and .i64 x 7 = x % 8 := bits_mask_k x 3 (by decide)
theorem and1 (x : Int) : bits .and .i64 x 1 = x % 2 := bits_mask_k x 1 (by decide)
end Go.Proofs.YtidhceebafmlkaaGreatDoor.Mo

namespace Go.Proofs.YtidhceebafmlkaaGreatDoor.Pm
open Go.RowKit Cu Tr
structure Ev where
  user : Int
  group : Int
  mask : Int
  dir : Int
abbrev ea (e : Ev) : Array Value := #[.int .i64 e.user, .int .i64 e.group, .int .i64 e.mask, .int .i64 e.dir]
def bitsP (n : Nd) (e : Ev) : Nat := if e.user = n.user then (n.mode / 64 % 8).toNat else if e.group = n.group then (n.mode / 8 % 8).toNat else (n.mode % 8).toNat
theorem bitsP_lt (n : Nd) (e : Ev) : bitsP n e < 8 := by unfold bitsP; (repeat' split) <;> omega
def sub (a b : Nat) : Bool := a &&& b == a
def anyX (m : Int) : Bool := bits .and .i64 m 73 != 0
def passP (n : Nd) : Bool := !decide (n.kind = 1) || anyX n.mode
def mayP (n : Nd) (e : Ev) (what : Int) : Bool := if what < 1 ∨ 7 < what ∨ n.kind = 0 then false else if e.user = 0 then decide (what % 2 = 0) || passP n else sub what.toNat (bitsP n e)
def ownsP (n : Nd) (e : Ev) : Bool := decide (e.user = 0) || decide (e.user = n.user)
theorem not8 : ∀ a, a < 8 → ∀ b, b < 8 → (bits .andNot .i64 ((a : Nat) : Int) ((b : Nat) : Int) == 0) = sub a b := by decide +kernel
theorem and1 (x : Int) : (bits .and .i64 x 1 == 0) = decide (x % 2 = 0) := by rw [Mo.and1, Bool.eq_iff_iff]; simp
theorem kd {k : UInt8} (c : UInt8) : (((k.toNat : Nat) : Int) == ((c.toNat : Nat) : Int)) = decide (k = c) := by
  rw [Bool.eq_iff_iff]; simp only [beq_iff_eq, decide_eq_true_eq]; exact ⟨fun h => UInt8.toNat_inj.1 (by omega), fun h => by rw [h]⟩
theorem kd_ne (k c : UInt8) (h : ¬ k = c) : (((k.toNat : Nat) : Int) != ((c.toNat : Nat) : Int)) = true := by
  rw [bne_iff_ne]; exact fun e => h (UInt8.toNat_inj.1 (by omega))
theorem ret_b {a b : Bool} (h : a = b) : Ending.returned (.bool a) = .returned (.bool b) := by rw [h]
theorem b2 (w : World) (o1 o2 : Obj) : Below w.heap.size w ((w.alloc o1).alloc o2) := ((Below.refl _ _).alloc (Nat.le_refl _) _).alloc (by simp) _
theorem b1 (w : World) (o1 : Obj) : Below w.heap.size w (w.alloc o1) := (Below.refl _ _).alloc (Nat.le_refl _) _
set_option maxRecDepth 100000 in
set_option maxHeartbeats 1000000 in
theorem bitsOf_any (n : Nd) (d l : Value) (e : Ev) (w : World) :
    Calls Tryz.prog 109 #[.agg (na n d l), .agg (ea e)] w fun r w' => r = .returned (.int .i64 (bitsP n e)) ∧ Below w.heap.size w w' := by
  obtain ⟨kd, md, us, gr, lk, ti, dt, tg, ls, pa⟩ := n
  obtain ⟨u, g, mk, dr⟩ := e
  unfold na ea
  obtain ⟨B, HB⟩ : ∃ B, Hid (B = bitsP ⟨kd, md, us, gr, lk, ti, dt, tg, ls, pa⟩ ⟨u, g, mk, dr⟩) := ⟨_, rfl⟩
  rw [← uh HB]
  simp only
  by_cases a1 : u = us
  · have HR : Hid ((bits .and .i64 (md / 8 / 8) 7) = (B : Int)) := by show _ = _; rw [uh HB, Mo.and7]; simp only [bitsP, a1, if_true]; omega
    clear HB
    go_enter Tryz.func109, Tryz.ntmps109
    go_wp2
    go_ret
    exact ⟨Mo.ret_i (uh HR), b2 _ _ _⟩
  by_cases a2 : g = gr
  · have HR : Hid ((bits .and .i64 (md / 8) 7) = (B : Int)) := by show _ = _; rw [uh HB, Mo.and7]; simp only [bitsP, a1, a2, if_true, if_false]; omega
    clear HB
    go_enter Tryz.func109, Tryz.ntmps109
    go_wp2
    go_ret
    exact ⟨Mo.ret_i (uh HR), b2 _ _ _⟩
  · have HR : Hid ((bits .and .i64 md 7) = (B : Int)) := by show _ = _; rw [uh HB, Mo.and7]; simp only [bitsP, a1, a2, if_false]; omega
    clear HB
    go_enter Tryz.func109, Tryz.ntmps109
    go_wp2
    go_ret
    exact ⟨Mo.ret_i (uh HR), b2 _ _ _⟩
set_option maxRecDepth 100000 in
set_option maxHeartbeats 1000000 in
theorem passes_any (n : Nd) (d l : Value) (w : World) :
    Calls Tryz.prog 108 #[.agg (na n d l)] w fun r w' => r = .returned (.bool (passP n)) ∧ Below w.heap.size w w' := by
  obtain ⟨kd, md, us, gr, lk, ti, dt, tg, ls, pa⟩ := n
  unfold na
  simp only
  by_cases a1 : kd = 1
  · have hv : passP ⟨kd, md, us, gr, lk, ti, dt, tg, ls, pa⟩ = (bits .and .i64 md 73 != 0) := by simp [passP, a1, anyX]
    rw [hv]
    subst a1
    go_enter Tryz.func108, Tryz.ntmps108
    go_wp2
    go_ret
    exact ⟨rfl, b1 _ _⟩
  · have hv : passP ⟨kd, md, us, gr, lk, ti, dt, tg, ls, pa⟩ = true := by simp [passP, a1]
    rw [hv]
    have hk : (((kd.toNat : Nat) : Int) != 1) = true := by have := kd_ne kd 1 a1; simpa using this
    clear a1 hv
    go_enter Tryz.func108, Tryz.ntmps108
    go_wp2
    go_ret
    exact ⟨rfl, b1 _ _⟩
set_option maxRecDepth 100000 in
set_option maxHeartbeats 1000000 in
theorem owns_any (n : Nd) (d l : Value) (e : Ev) (w : World) :
    Calls Tryz.prog 39 #[.agg (na n d l), .agg (ea e)] w fun r w' => r = .returned (.bool (ownsP n e)) ∧ Below w.heap.size w w' := by
  obtain ⟨kd, md, us, gr, lk, ti, dt, tg, ls, pa⟩ := n
  obtain ⟨u, g, mk, dr⟩ := e
  unfold na ea
  simp only
  by_cases a1 : u = 0
  · have hv : ownsP ⟨kd, md, us, gr, lk, ti, dt, tg, ls, pa⟩ ⟨u, g, mk, dr⟩ = true := by simp [ownsP, a1]
    rw [hv]
    subst a1
    clear hv
    go_enter Tryz.func39, Tryz.ntmps39
    go_wp2
    go_ret
    exact ⟨rfl, b2 _ _ _⟩
  · have hv : ownsP ⟨kd, md, us, gr, lk, ti, dt, tg, ls, pa⟩ ⟨u, g, mk, dr⟩ = (u == us) := by rw [Bool.eq_iff_iff]; simp [ownsP, a1]
    rw [hv]
    clear hv
    have h1 : (u == 0) = false := by simpa using a1
    clear a1
    go_enter Tryz.func39, Tryz.ntmps39
    go_wp2
    go_ret
    exact ⟨rfl, b2 _ _ _⟩
set_option maxRecDepth 100000 in
set_option maxHeartbeats 1000000 in
theorem may_any (n : Nd) (d l : Value) (e : Ev) (what : Int) (w : World) :
    Calls Tryz.prog 37 #[.agg (na n d l), .agg (ea e), .int .i64 what] w fun r w' => r = .returned (.bool (mayP n e what)) ∧ Below w.heap.size w w' := by
  have HC := hide (fun W => passes_any n d l W)
  have HD := hide (fun W => bitsOf_any n d l e W)
  have hB8 := bitsP_lt n e
  have HN : Hid (∀ a, a < 8 → (bits .andNot .i64 ((a : Nat) : Int) ((bitsP n e : Nat) : Int) == 0) = sub a (bitsP n e)) := fun a ha => not8 a ha _ hB8
  obtain ⟨P, HP⟩ : ∃ P, Hid (P = passP n) := ⟨_, rfl⟩
  obtain ⟨B, HB⟩ : ∃ B, Hid (B = bitsP n e) := ⟨_, rfl⟩
  rw [← uh HP] at HC
  rw [← uh HB] at HD HN hB8
  obtain ⟨M, HM⟩ : ∃ M, Hid (M = mayP n e what) := ⟨_, rfl⟩
  rw [← uh HM]
  have HMe : Hid (M = if what < 1 ∨ 7 < what ∨ n.kind = 0 then false else if e.user = 0 then decide (what % 2 = 0) || P else sub what.toNat B) := by
    show M = _
    rw [uh HM, mayP, uh HP, uh HB]
  clear HM HP HB
  obtain ⟨kd, md, us, gr, lk, ti, dt, tg, ls, pa⟩ := n
  obtain ⟨u, g, mk, dr⟩ := e
  unfold na ea at *
  simp only at *
  by_cases a1 : what < 1
  · have hM : M = false := by rw [uh HMe, if_pos (.inl a1)]
    subst hM
    clear HMe HC HD HN
    go_enter Tryz.func37, Tryz.ntmps37
    go_wp2_with fail
    go_ret
    exact ⟨rfl, b2 _ _ _⟩
  by_cases a2 : 7 < what
  · have hM : M = false := by rw [uh HMe, if_pos (.inr (.inl a2))]
    subst hM
    clear HMe HC HD HN
    go_enter Tryz.func37, Tryz.ntmps37
    go_wp2_with fail
    go_ret
    exact ⟨rfl, b2 _ _ _⟩
  by_cases a3 : kd = 0
  · have hM : M = false := by rw [uh HMe, if_pos (.inr (.inr a3))]
    subst hM
    subst a3
    clear HMe HC HD HN
    go_enter Tryz.func37, Tryz.ntmps37
    go_wp2_with fail
    go_ret
    exact ⟨rfl, b2 _ _ _⟩
  have hk : (((kd.toNat : Nat) : Int) == 0) = false := by have := kd_ne kd 0 a3; simpa using this
  obtain ⟨a, rfl⟩ : ∃ a : Nat, what = (a : Int) := ⟨what.toNat, by omega⟩
  have ha : a < 8 := by omega
  have hN := uh HN a ha
  rw [if_neg (fun h => h.elim a1 fun h => h.elim a2 a3)] at HMe
  by_cases a4 : u = 0
  · rw [if_pos a4] at HMe
    subst a4
    by_cases a5 : (a : Int) % 2 = 0
    · have hM : M = true := by rw [uh HMe]; simp only [a5, decide_true, Bool.true_or]
      have h1 : (bits .and .i64 (a : Int) 1 == 0) = true := by rw [and1, a5]; rfl
      subst hM
      clear HMe HC HD HN hN a5 a3
      go_enter Tryz.func37, Tryz.ntmps37
      go_wp2_with fail
      go_ret
      exact ⟨rfl, b2 _ _ _⟩
    · have hM : M = P := by rw [uh HMe]; simp only [a5, decide_false, Bool.false_or]
      have h1 : (bits .and .i64 (a : Int) 1 == 0) = false := by rw [and1]; exact decide_eq_false a5
      subst hM
      clear HMe HD HN hN a5 a3
      go_enter Tryz.func37, Tryz.ntmps37
      go_wp2_with fail
      refine (uh HC _).mono ?_
      rintro r w' ⟨rfl, hb⟩
      have HB := hide ((b2 w _ _).trans (hb.mono (by simp; omega)))
      clear hb
      go_wp2_with fail
      go_ret
      exact ⟨rfl, uh HB⟩
  · rw [if_neg a4] at HMe
    have hM : M = sub a B := by rw [uh HMe]; rfl
    have HM2 : Hid ((bits .andNot .i64 (a : Int) (B : Int) == 0) = M) := hN.trans hM.symm
    clear HMe HC HN hN hM a3
    go_enter Tryz.func37, Tryz.ntmps37
    go_wp2_with fail
    refine (uh HD _).mono ?_
    rintro r w' ⟨rfl, hb⟩
    have HB := hide ((b2 w _ _).trans (hb.mono (by simp; omega)))
    clear hb
    go_wp2_with fail
    go_ret
    exact ⟨ret_b (uh HM2), uh HB⟩
end Go.Proofs.YtidhceebafmlkaaGreatDoor.Pm
