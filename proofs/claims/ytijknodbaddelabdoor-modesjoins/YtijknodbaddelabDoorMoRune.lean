/- What a Builder's WriteByte and WriteRune of a byte below 128 answer, and what they leave alone. -/
import Derived.Test.YtijknodbaddelabDoorMoBits
import Derived.Test.YtijknodbaddelabDoorLnBuild
import Derived.Laws.RangeAny
namespace Go.Proofs.YtijknodbaddelabDoor.Mo
open Go.RowKit Go.Shelf

abbrev IsB (B b : Nat) (l : List UInt8) (w : World) : Prop := Lib.IsBuilder 60 5 B b (Lib.byteCells l) w
/-- but for block b, only blocks of bytes may have turned -/
def Keeps (b : Nat) (w w' : World) : Prop := ∀ k, k < w.heap.size → k ≠ b → (∀ cs fz, w.heap[k]? ≠ some (.cells cs 5 fz)) → w'.heap[k]? = w.heap[k]?
theorem own_block {w : World} {base : Nat} {e : TypeId} {s : Nat} {v : Value} {n : Nat} {xs : List Value} (h : w.ownsRow base e s v n xs) : ∀ k, v.ownBlock = some k → k < w.heap.size ∧ ∃ cur, w.heap[k]? = some (.cells cur e (0, 0)) := by
  intro k hk
  rcases h.2 with ⟨rfl, _⟩ | ⟨g, cap, cur, rfl, _, hg, _⟩
  · simp [Value.ownBlock] at hk
  · simp [Value.ownBlock] at hk
    subst hk
    exact ⟨(Array.getElem?_eq_some_iff.1 hg).1, cur, hg⟩
theorem copyCheck_keep (B b : Nat) (bs : List Value) (w : World) (h : Lib.IsBuilder 60 5 B b bs w) :
    Calls Tryd.prog 33 #[.pointer (some ⟨b, 0, none⟩)] w fun e w' => e = .returned (.tuple #[]) ∧ Lib.BuilderAt 60 5 B b (.pointer (some ⟨b, 0, none⟩)) bs w' ∧ Below B w w' ∧ ∀ k, k ≠ b → w'.heap[k]? = w.heap[k]? := by
  rcases h with h | h
  · refine (Ln.copyCheck_fresh b w h.cell0 h.shape h.frozen0).mono ?_
    rintro e w' ⟨rfl, rfl⟩
    exact ⟨rfl, h.used _, (Below.refl B w).setCell (p := ⟨b, 0, none⟩) h.1 _, fun k hk => Below.heap_setCell _ _ _ k hk⟩
  · refine (Ln.copyCheck_used b w h.cell0).mono ?_
    rintro e w' ⟨rfl, rfl⟩
    exact ⟨rfl, h, Below.refl B _, fun _ _ => rfl⟩
set_option maxHeartbeats 400000 in
set_option maxRecDepth 100000 in
theorem appendRune_ascii (B : Nat) (v : Value) (bs : List Value) (c : Nat) (hc : c < 128) (w : World) (hown : w.ownsRow B 5 1 v bs.length bs) (hlen : bs.length + 1 ≤ 140737488355328) (hBw : B ≤ w.heap.size) :
    Calls Tryd.prog 34 #[v, .int .i32 c] w fun e w' => ∃ v', e = .returned v' ∧ w'.ownsRow B 5 1 v' (bs.length + 1) (bs ++ [.int .u8 c]) ∧ w.grownBy w' v.ownBlock := by
  obtain ⟨i0, hi, hz0, hz1, hz2⟩ := info_parts Tryd.sextra.infoByte
  obtain ⟨a, n, cp, rfl⟩ := Ln.ownsRow_slice hown
  have HO := hide hown
  clear hown
  go_enter Tryd.func34, Tryd.ntmps34
  go_wp2_with (at_builtin; refine wpList_append_own _ rfl _ _ 58 rfl B 5 i0 (.int .u8 0) 1 1 Tryd.underlying58 hi hz0 hz1 hz2 rfl (by decide) _ _ _ rfl ((unhide HO).alloc _) ⟨w.heap.size, 0, none⟩ 1 1 [.int .u8 c] rfl rfl (Ln.byte_new _ _ _) (Ln.byte_one _) (by unfold maxLen; omega) (by omega) (by simp; omega) ?_)
  intro v' w2 hown' hgrow _
  have HG := hide (Ln.grown_two hgrow)
  have HO' := hide hown'
  obtain ⟨g, cap, rfl⟩ := Ln.ownsRow_some hown'
  clear hgrow hown'
  go_wp2
  go_ret
  exact ⟨_, rfl, unhide HO', unhide HG⟩
set_option maxHeartbeats 2000000 in
set_option maxRecDepth 100000 in
theorem writeRune_keep (B b : Nat) (bs : List Value) (c : Nat) (hc : c < 128) (w : World) (h : Lib.IsBuilder 60 5 B b bs w) (hlen : bs.length + 1 ≤ 140737488355328) (hBw : B ≤ w.heap.size) :
    Calls Tryd.prog 24 #[.pointer (some ⟨b, 0, none⟩), .int .i32 c] w fun e w' => e = .returned (.tuple #[.int .i64 1, .nilIface]) ∧ Lib.IsBuilder 60 5 B b (bs ++ [.int .u8 c]) w' ∧ Below B w w' ∧ Keeps b w w' := by
  go_enter Tryd.func24, Tryd.ntmps24
  go_wp2_with fail
  refine (copyCheck_keep B b bs _ h).mono ?_
  rintro e w1 ⟨rfl, h1, hb1, hk1⟩
  have hsz := hb1.size
  obtain ⟨v, c1, hown, hB, hlt, hrow, hnext⟩ := Ln.bld_parts h1
  have HN := hide hnext
  have HR := hide hrow
  have HK := hide hk1
  have HO := hide (own_block hown)
  have HA := hide (appendRune_ascii B v bs c hc w1 hown hlen (by omega))
  have hv : ∃ a cp, v = .slice a bs.length cp := by
    rcases hown.2 with ⟨hv, h0⟩ | ⟨g, cap, cur, hv, _⟩
    · exact ⟨none, 0, by rw [hv, h0]⟩
    · exact ⟨_, _, hv⟩
  obtain ⟨a, cp, rfl⟩ := hv
  clear hnext hrow h1 h hk1 hown
  go_wp2_with fail
  refine (unhide HA).mono ?_
  rintro e w2 ⟨v', rfl, hown', hgrow⟩
  obtain ⟨d1, f1, hput⟩ := HN.out w2 hgrow
  have hfin := hide (hput v' (bs ++ [.int .u8 c]) (by simpa using hown'))
  have hbel : Hid (Below B w w2) := hb1.grown hgrow (by omega) HR.out
  have hkeep : Hid (∀ k, k < w.heap.size → k ≠ b → (∀ cs fz, w.heap[k]? ≠ some (.cells cs 5 fz)) → w2.heap[k]? = w.heap[k]?) := by
    intro k h1 h2 h3
    have h4 := unhide HK k h2
    rw [hgrow.block k (by omega) (fun e => by
      obtain ⟨_, cur, hc⟩ := unhide HO k e.symm
      rw [h4] at hc
      exact h3 _ _ hc)]
    exact h4
  have hlt2 : b < w2.heap.size := by have := hgrow.size; omega
  obtain ⟨g, cap, rfl⟩ := Ln.ownsRow_some hown'
  clear hput hgrow hown' HA HK HO HR HN
  go_wp2_with fail
  go_ret2
  refine ⟨?_, unhide hfin, (unhide hbel).setCell (p := ⟨b, 1, none⟩) hB _, fun k h1 h2 h3 => (Below.heap_setCell _ _ _ k h2).trans (unhide hkeep k h1 h2 h3)⟩
  congr 3; simp; omega
end Go.Proofs.YtijknodbaddelabDoor.Mo
