/- PathsBack walked. -/
import Derived.Test.YthmoinagfooncaaDoorPtBackP
import Derived.Test.YthmoinagfooncaaDoorPtLives
import Derived.Test.YthmoinagfooncaaDoorPtGreat
namespace Go.Proofs.YthmoinagfooncaaDoor.Pt
open Go.RowKit Go.Proofs.YthmoinagfooncaaDoor.Cu Go.Proofs.YthmoinagfooncaaDoor.Tr Go.Proofs.YthmoinagfooncaaDoor.Pm

/-- the tree's box, and that of somebody -/
structure Bk (w W : World) (cT : Array Value) (E d : Nat) : Prop where
  below : Below w.heap.size w W
  tree : W.heap[w.heap.size]? = some (.cells cT 28)
  env : W.heap[E]? = some (.cells #[.int .i64 0, .int .i64 0, .int .i64 0, .int .i64 d] 33)
  le : w.heap.size ≤ E
theorem Bk.step {w W W' : World} {cT : Array Value} {E d : Nat} (h : Bk w W cT E d) (hb : Below W.heap.size W W') : Bk w W' cT E d :=
  ⟨h.below.trans (hb.mono h.below.size), keep1 h.tree hb, keep1 h.env hb, h.le⟩
theorem Bk.set {w W : World} {cT : Array Value} {E d : Nat} (h : Bk w W cT E d) (k : Nat) : Bk w (W.setCell ⟨E, 3, none⟩ (.int .i64 k)) cT E k :=
  ⟨h.below.setCell (p := ⟨E, 3, none⟩) h.le _, (heap_setCell_other W ⟨E, 3, none⟩ w.heap.size _ (ty_ne h.tree h.env (by decide))).trans h.tree, heap_setCell_same W E 3 _ _ _ h.env, h.le⟩
theorem Bk.cells {w W : World} {t0 t1 : Value} {E d : Nat} (h : Bk w W #[t0, t1] E d) : W.cell? ⟨w.heap.size, 0, none⟩ = some t0 ∧ W.cell? ⟨w.heap.size, 1, none⟩ = some t1 ∧ W.cell? ⟨E, 0, none⟩ = some (.int .i64 0) ∧ W.cell? ⟨E, 1, none⟩ = some (.int .i64 0) ∧ W.cell? ⟨E, 2, none⟩ = some (.int .i64 0) ∧ W.cell? ⟨E, 3, none⟩ = some (.int .i64 d) ∧ W.frozen? ⟨E, 3, none⟩ = false ∧ w.heap.size < W.heap.size ∧ E < W.heap.size := by
  obtain ⟨e0, e1, e2, e3⟩ := env_cells h.env
  exact ⟨by rw [cell_of_row _ _ _ _ _ _ h.tree]; rfl, by rw [cell_of_row _ _ _ _ _ _ h.tree]; rfl, e0, e1, e2, e3, by simp [World.frozen?, h.env], lt1 h.tree, lt1 h.env⟩
/-- the tree's box -/
structure Tb (w W : World) (cT : Array Value) : Prop where
  below : Below w.heap.size w W
  tree : W.heap[w.heap.size]? = some (.cells cT 28)
theorem Tb.step {w W W' : World} {cT : Array Value} (h : Tb w W cT) (hb : Below W.heap.size W W') : Tb w W' cT := ⟨h.below.trans (hb.mono h.below.size), keep1 h.tree hb⟩
theorem Tb.cells {w W : World} {t0 t1 : Value} (h : Tb w W #[t0, t1]) : W.cell? ⟨w.heap.size, 0, none⟩ = some t0 ∧ W.cell? ⟨w.heap.size, 1, none⟩ = some t1 ∧ w.heap.size < W.heap.size :=
  ⟨by rw [cell_of_row _ _ _ _ _ _ h.tree]; rfl, by rw [cell_of_row _ _ _ _ _ _ h.tree]; rfl, lt1 h.tree⟩
theorem dr_dir {now : Int} {ns : List Nd} (hc : checkP now ns = true) {k : Nat} (hd : Dr ns k) : isDirP now ns (k : Int) = true := by
  unfold isDirP nodeP
  have := hd.1; have := hd.2.1
  rw [hc, Int.toNat_natCast, hd.2.2]
  simp; omega
set_option maxRecDepth 100000 in
set_option maxHeartbeats 2000000 in
theorem back_law (a : Option Addr) (n cap : Nat) (ns : List Nd) (now : Int) (fr : Nat) (w : World) (h : Ng w a n cap ns) (hn : n ≤ 281474976710656) (hr : ∀ i, i < n → Rb (nd ns i)) (hfr : fr ≤ 65535) :
    Calls Tryd.prog 4 #[.agg #[.slice a n cap, .int .i64 now], .int .u16 fr] w fun e w' => e = .returned (.bool true) ∧ Below w.heap.size w w' := by
  have HG : Hid (∀ W, Below w.heap.size w W → Calls Tryd.prog 14 #[.agg #[.slice a n cap, .int .i64 now], .string ⟨#[]⟩] W fun e w' => (∃ q : Bool, e = .returned (.bool q) ∧ (q = false → nodesTo ns ns.length ≤ 200000 ∧ (⟨#[]⟩ : ByteArray).size ≤ 20000)) ∧ Below W.heap.size W w') := fun W hW => pgreat_any a n cap ns now ⟨#[]⟩ W (h.below hW) hn hr
  have HL := hide lives_any
  have HN := hide h
  have hN0 : Hid (Tb w (w.alloc (.cells #[.slice a n cap, .int .i64 now] 28)) #[.slice a n cap, .int .i64 now]) := ⟨below_new w _, heap_alloc_new w _⟩
  clear h hr
  go_enter Tryd.func4, Tryd.ntmps4
  go_wp2_with fail
  refine (unhide HG _ (unhide hN0).below).mono ?_
  rintro e w1 ⟨⟨q, rfl, hq⟩, b1⟩
  have hN1 := hide ((unhide hN0).step b1)
  clear b1 hN0 HG
  cases q with
  | true =>
    clear hq
    go_wp2_with fail
    refine (unhide HL _).mono ?_
    rintro e w2 ⟨rfl, b2⟩
    have hB2 := hide ((unhide hN1).step b2).below
    clear b2 HL hN1
    go_wp2
    go_ret
    exact ⟨rfl, unhide hB2⟩
  | false =>
    have hsm := sm_of_size (hq rfl).1
    obtain ⟨c0, c1, -⟩ := (unhide hN1).cells
    have HCk := hide (checkAny now ((unhide HN).below (unhide hN1).below) hsm)
    have HSM := hide hsm
    clear hq hsm
    go_wp2_with fail
    refine (unhide HCk).mono ?_
    rintro e w2 ⟨rfl, b2⟩
    have hN2 := hide ((unhide hN1).step b2)
    clear b2 HCk c0 c1 hN1
    cases hck : checkP now ns with
    | false =>
      go_wp2_with fail
      refine (unhide HL _).mono ?_
      rintro e w3 ⟨rfl, b3⟩
      have hB3 := hide ((unhide hN2).step b3).below
      clear b3 HL hN2
      go_wp2
      go_ret
      exact ⟨rfl, unhide hB3⟩
    | true =>
      have HCK := hide hck
      clear hck
      have h2 : 2 ≤ n := by rw [← (unhide HN).len]; exact checkP_two (unhide HCK)
      have hn6 : n ≤ 1000000 := by rw [← (unhide HN).len]; exact (unhide HSM).hn
      rcases (unhide HN).cells with h0 | ⟨b, off, rfl, hb, hc⟩
      · omega
      have HX : Hid (∀ (W : World) (x : Nat), Below w.heap.size w W → x < n → W.cell? ⟨b, off + x * 10, none⟩ = some (.int .u8 (nd ns x).kind.toNat)) := fun W x hW hx => by
        obtain ⟨_, _, _, _, q, _, _⟩ := (hc x hx).below hb hW
        exact q.c0
      have HLn := hide (unhide HN).len
      clear hc hb
      have HK0 : Hid (Bk w (w2.alloc (.cells #[.int .i64 0, .int .i64 0, .int .i64 0, .int .i64 1] 33)) #[.slice (some ⟨b, off, none⟩) n cap, .int .i64 now] w2.heap.size 1) := by
        have q := below_new w2 (.cells #[.int .i64 0, .int .i64 0, .int .i64 0, .int .i64 1] 33)
        exact ⟨((unhide hN2).step q).below, ((unhide hN2).step q).tree, heap_alloc_new w2 _, (unhide hN2).below.size⟩
      have HD0 : Hid (Dr ns 1) := dr_root (unhide HCK)
      clear hN2
      go_wp2_with fail
      obtain ⟨E, hE⟩ : ∃ E, E = w2.heap.size := ⟨_, rfl⟩
      rw [← hE] at HK0 ⊢
      obtain ⟨w3, hw3⟩ : ∃ w3, w3 = w2.alloc (.cells #[.int .i64 0, .int .i64 0, .int .i64 0, .int .i64 1] 33) := ⟨_, rfl⟩
      rw [← hw3] at HK0 ⊢
      clear hE hw3
      go_loopw [6] (fun x wr => ∃ i d : Nat, i ≤ n ∧ x = .int .i64 i ∧ Hid (Bk w wr #[.slice (some ⟨b, off, none⟩) n cap, .int .i64 now] E d) ∧ Hid (Dr ns d)) (fun x _ => n - (intOf x).toNat)
      case atStart => exact ⟨0, 1, Nat.zero_le _, rfl, HK0, HD0⟩
      case round =>
        clear HK0 HD0
        obtain ⟨i, d, hi, rfl, HK, HD⟩ := hrel
        obtain ⟨c0, c1, e0, e1, e2, e3, f3, hl1, hl2⟩ := (unhide HK).cells
        by_cases hlt : i < n
        · have hlt' : (i : Int) < (n : Int) := by omega
          have hmod : ((fr : Int) + (i : Int)) % (n : Int) = (((fr + i) % n : Nat) : Int) := by
            rw [← Int.natCast_add, ← Int.natCast_emod]
          have hkn : (fr + i) % n < n := Nat.mod_lt _ (by omega)
          generalize (fr + i) % n = k at *
          have ck := unhide HX wr k (unhide HK).below hkn
          by_cases hk2 : (nd ns k).kind = 2
          · have ck2 : wr.cell? ⟨b, off + k * 10, none⟩ = some (.int .u8 2) := by rw [ck, hk2]; rfl
            have HK2 := hide ((unhide HK).set k)
            have HD2 : Hid (Dr ns k) := ⟨by
              refine Nat.pos_of_ne_zero fun e => ?_
              rw [e, (checkP_parts (unhide HCK)).2.2.1] at hk2
              exact absurd hk2 (by decide), by rw [unhide HLn]; exact hkn, hk2⟩
            clear ck hk2 HK HD
            go_wp2_with fail
            go_roundw
            case rel => exact ⟨i + 1, k, by omega, by go_num, HK2, HD2⟩
            case measure => simp [intOf]; omega
          · have hz : ¬ (((nd ns k).kind.toNat : Nat) : Int) = 2 := fun e => hk2 (UInt8.toNat_inj.1 (by show _ = 2; omega))
            generalize (nd ns k).kind.toNat = z at *
            clear hk2
            go_wp2_with fail
            go_roundw
            case rel => exact ⟨i + 1, d, by omega, by go_num, HK, HD⟩
            case measure => simp [intOf]; omega
        · obtain rfl : i = n := by omega
          have HSm := HSM
          go_wp2_with fail
          clear c0 c1 e0 e1 e2 e3 f3 hl1 hl2 hlt hi
          go_loopw [8] (fun x wy => ∃ m : Nat, 1 ≤ m ∧ m ≤ i ∧ x = .int .i64 m ∧ Hid (Bk w wy #[.slice (some ⟨b, off, none⟩) i cap, .int .i64 now] E d)) (fun x _ => i - (intOf x).toNat)
          case atStart => exact ⟨1, Nat.le_refl _, by omega, rfl, HK⟩
          case round =>
            clear HK
            obtain ⟨m, hm1, hmn, rfl, HK⟩ := hrel
            obtain ⟨c0, c1, e0, e1, e2, e3, f3, hl1, hl2⟩ := (unhide HK).cells
            by_cases hlt : m < i
            · have hlt' : (m : Int) < (i : Int) := by omega
              have ck := unhide HX wr m (unhide HK).below hlt
              by_cases hk2 : (nd ns m).kind = 2
              · have ck2 : wr.cell? ⟨b, off + m * 10, none⟩ = some (.int .u8 2) := by rw [ck, hk2]; rfl
                have hdr : Dr ns m := ⟨by omega, by rw [unhide HLn]; exact hlt, hk2⟩
                obtain ⟨L, P, hph⟩ := ph_of (dr_dir (unhide HCK) hdr)
                have HP := hide (path_any (some ⟨b, off, none⟩) i cap ns now m wr ((unhide HN).below (unhide HK).below) (unhide HSm))
                rw [hph.path] at HP
                have hP6 := hph.small
                have HF : Hid (P.size ≤ 1024 → ∃ p, p.node = (m : Int) ∧ ∀ W, Below w.heap.size w W → Calls Tryd.prog 17 #[.agg #[.slice (some ⟨b, off, none⟩) i cap, .int .i64 now], .agg #[.int .i64 0, .int .i64 0, .int .i64 0, .int .i64 d], .string P, .bool true] W fun r w' => r = .returned (.tuple #[.agg (pv p), .int .i64 0]) ∧ Below W.heap.size W w') := fun hs => by
                  obtain ⟨p, h1, h2⟩ := back_find (unhide HCK) hph hs (unhide HD)
                  refine ⟨p, h2, fun W hW => ?_⟩
                  have q := findP_any (some ⟨b, off, none⟩) i cap ns now ⟨0, 0, 0, d⟩ P true W ((unhide HN).below hW) (unhide HSm) (by omega)
                  rw [h1] at q; exact q
                clear ck hk2 hdr hph
                go_wp2_with fail
                refine (unhide HP).mono ?_
                rintro r1 w5 ⟨rfl, b5⟩
                have HK5 := hide ((unhide HK).step b5)
                clear b5 HK HP c0 c1 e0 e1 e2 e3 f3 hl1 hl2 ck2
                obtain ⟨c0, c1, e0, e1, e2, e3, f3, hl1, hl2⟩ := (unhide HK5).cells
                by_cases hs : P.size ≤ 1024
                · have hs' : ¬ (1024 : Int) < (P.size : Int) := by omega
                  obtain ⟨⟨pd, pn, po, pr⟩, hpo, hfind⟩ := unhide HF hs
                  simp only at hpo
                  subst hpo
                  have HFd := hide (hfind w5 (unhide HK5).below)
                  clear HF hfind hs
                  go_wp2_with fail
                  refine (unhide HFd).mono ?_
                  rintro r2 w6 ⟨rfl, b6⟩
                  have HK6 := hide ((unhide HK5).step b6)
                  have HK7 := hide ((unhide HK6).step (below_new w6 (.cells #[.int .i64 pd, .string pn, .int .i64 m, .bool pr] tyPlace)))
                  clear b6 HK5 HFd c0 c1 e0 e1 e2 e3 f3 hl1 hl2
                  go_wp2_with fail
                  go_roundw
                  case rel => exact ⟨m + 1, by omega, by omega, by go_num, HK7⟩
                  case measure => simp [intOf]; omega
                · have hs' : (1024 : Int) < (P.size : Int) := by omega
                  clear HF hs
                  go_wp2_with fail
                  go_roundw
                  case rel => exact ⟨m + 1, by omega, by omega, by go_num, HK5⟩
                  case measure => simp [intOf]; omega
              · have hz : ¬ (((nd ns m).kind.toNat : Nat) : Int) = 2 := fun e => hk2 (UInt8.toNat_inj.1 (by show _ = 2; omega))
                generalize (nd ns m).kind.toNat = z at *
                have hz2 : ((z : Int) != 2) = true := by simpa using hz
                clear hk2
                go_wp2_with fail
                go_roundw
                case rel => exact ⟨m + 1, by omega, by omega, by go_num, HK⟩
                case measure => simp [intOf]; omega
            · obtain rfl : m = i := by omega
              have hll : ¬ (m : Int) < (m : Int) := by omega
              go_wp2_with fail
              refine (unhide HL _).mono ?_
              rintro e w3 ⟨rfl, b3⟩
              have hB3 := hide ((unhide HK).step b3).below
              clear b3 HL HK c0 c1 e0 e1 e2 e3 f3 hl1 hl2
              go_wp2_with fail
              go_ret
              exact ⟨rfl, unhide hB3⟩
end Go.Proofs.YthmoinagfooncaaDoor.Pt
