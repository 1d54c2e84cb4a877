/- What calls of each kind do: write, lengthen: a file filled. -/
import Derived.Test.YtpcklgbcabpilaaGreatDoorCaFill
import Derived.Test.YtpcklgbcabpilaaGreatDoorCaGone
namespace Go.Proofs.YtpcklgbcabpilaaGreatDoor.Ca
open Go.RowKit Go.Proofs.YtpcklgbcabpilaaGreatDoor.Cu Go.Proofs.YtpcklgbcabpilaaGreatDoor.Tr Go.Proofs.YtpcklgbcabpilaaGreatDoor.Pm Go.Proofs.YtpcklgbcabpilaaGreatDoor.Pt

set_option maxRecDepth 100000 in
theorem node_field (c0 c1 c2 c3 c4 c5 c6 c7 c8 c9 : Value) (w : World) : Sem.run Tryz.prog (Instr.field 82 (.agg #[c0, c1, c2, c3, c4, c5, c6, c7, c8, c9]) 6) w = Result.ok c6 w := by kernel_rfl
set_option maxRecDepth 100000 in
set_option maxHeartbeats 400000 in
theorem write_any (A : Nat) (x : Option Addr) (n cap : Nat) (dx : Option Addr) (dc : Nat) (a : Ac) (w : World) (h : At w A x n cap dx dc a) (hp : Okp a.ns a.p) (hcd : a.c.data.length ≤ 4611686018427387904) :
    Calls Tryz.prog 122 #[.pointer (some ⟨A, 0, none⟩)] w (DoR (a.fill []) w) := by
  obtain ⟨pd, hpd, hdr⟩ := hp.dir
  obtain ⟨pm, hpm, hpn, -⟩ := hp.node h.chk
  have HFI : Hid (∀ W, At W A x n cap dx dc a → Calls Tryz.prog 185 #[.pointer (some ⟨A, 0, none⟩), .slice none 0 0] W (DoR (a.fill []) W)) := fun W hW => fill_any A x n cap dx dc a none 0 [] W hW hp ⟨rfl, Nat.le_refl _, fun _ => ⟨rfl, rfl⟩, .inl rfl⟩ (by simp) hcd
  obtain ⟨RR, hRR⟩ : ∃ RR, RR = a.fill [] := ⟨_, rfl⟩
  rw [← hRR]
  rw [← hRR] at HFI
  clear hRR
  obtain ⟨⟨ns, nw⟩, er⟩ := RR
  obtain ⟨w1, hw1⟩ : ∃ w1, w1 = w.alloc (.cells zTree 24) := ⟨_, rfl⟩
  have HA1 : Hid (At w1 A x n cap dx dc a) := by rw [hw1]; exact h.al _
  have HLOW : Hid (∀ W', Below w1.heap.size w1 W' → Below (w.alloc (.cells zTree 24)).heap.size (w.alloc (.cells zTree 24)) W') := fun W' hb => by rw [← hw1]; exact hb
  have HSZ : Hid (w.heap.size < w1.heap.size) := by show _ < _; rw [hw1]; simp
  have HW1 := hide hw1
  clear h hw1 hp hpd hpm hpn hdr
  go_enter Tryz.func122, Tryz.ntmps122
  go_upto_region 1 with fail
  rw [← unhide HW1]
  go_wp2_with fail
  refine (unhide HFI _ (unhide HA1)).mono ?_
  rintro e w2 ⟨⟨v, rfl, hot⟩, hb2⟩
  obtain ⟨va, vn, vc, hv⟩ : ∃ a n c, v = .slice a n c := by
    obtain ⟨l, hr, -⟩ := hot
    obtain ⟨a', c', h⟩ := own_sl hr
    exact ⟨_, _, _, h⟩
  subst hv
  have HBW : Hid (Below (w.alloc (.cells zTree 24)).heap.size (w.alloc (.cells zTree 24)) w2) := unhide HLOW _ hb2
  obtain ⟨r0, r1, z0, z1⟩ := room_cells (unhide HBW)
  have HDF := hide (hot.room (unhide HSZ) (.slice va vn vc) (.int .i64 nw))
  have HF := hide (room_below (unhide HBW) (.slice va vn vc) (.int .i64 nw))
  clear hot hb2
  go_wp2_with fail
  refine bodyPost_ret (v := .tuple #[.agg #[.slice va vn vc, .int .i64 nw], .int .i64 er]) (by simp [results, Tryz.results122, go_sem, r0, r1]) rfl ?_
  exact ⟨⟨_, rfl, unhide HDF⟩, unhide HF⟩
set_option maxRecDepth 100000 in
set_option maxHeartbeats 400000 in
theorem lengthen_any (A : Nat) (x : Option Addr) (n cap : Nat) (dx : Option Addr) (dc : Nat) (a : Ac) (w : World) (h : At w A x n cap dx dc a) (hp : Okp a.ns a.p) (hcd : a.c.data.length ≤ 4611686018427387904) :
    Calls Tryz.prog 123 #[.pointer (some ⟨A, 0, none⟩)] w (DoR (a.fill a.here.data) w) := by
  obtain ⟨pd, hpd, hdr⟩ := hp.dir
  obtain ⟨pm, hpm, hpn, -⟩ := hp.node h.chk
  have hfl : a.here.data.length ≤ 65536 := by
    unfold Ac.here
    rw [hpm]
    exact data_small ((checkP_parts h.chk).2.2.2.2.2.1 pm hpn)
  have HFI : Hid (∀ W da ec, At W A x n cap dx dc a → By W da a.here.data.length ec a.here.data → Calls Tryz.prog 185 #[.pointer (some ⟨A, 0, none⟩), .slice da a.here.data.length ec] W (DoR (a.fill a.here.data) W)) := fun W da ec hW hB => fill_any A x n cap dx dc a da ec a.here.data W hW hp hB hfl hcd
  have HHH : Hid (∀ W, At W A x n cap dx dc a → Calls Tryz.prog 186 #[.pointer (some ⟨A, 0, none⟩)] W fun e w' => (∃ v, e = .returned v ∧ IsNd w' v a.here) ∧ Below W.heap.size W w') := fun W hW => here_any A x n cap dx dc a pm W hW hpm hpn
  obtain ⟨RR, hRR⟩ : ∃ RR, RR = a.fill a.here.data := ⟨_, rfl⟩
  rw [← hRR]
  rw [← hRR] at HFI
  clear hRR
  obtain ⟨⟨ns, nw⟩, er⟩ := RR
  obtain ⟨w1, hw1⟩ : ∃ w1, w1 = w.alloc (.cells zTree 24) := ⟨_, rfl⟩
  have HA1 : Hid (At w1 A x n cap dx dc a) := by rw [hw1]; exact h.al _
  have HLOW : Hid (∀ W', Below w1.heap.size w1 W' → Below (w.alloc (.cells zTree 24)).heap.size (w.alloc (.cells zTree 24)) W') := fun W' hb => by rw [← hw1]; exact hb
  have HSZ : Hid (w.heap.size < w1.heap.size) := by show _ < _; rw [hw1]; simp
  have HW1 := hide hw1
  clear h hw1 hp hpd hpm hpn hdr
  go_enter Tryz.func123, Tryz.ntmps123
  go_upto_region 1 with fail
  rw [← unhide HW1]
  go_wp2_with fail
  refine (unhide HHH _ (unhide HA1)).mono ?_
  rintro e w3 ⟨⟨vh, rfl, da, ec, la, lc, hvh, hby, -⟩, hb3⟩
  subst hvh
  have HA3 := hide ((unhide HA1).below hb3)
  have HBY := hide hby
  have HB3 := hide hb3
  clear hb3 hby
  unfold nv na
  go_wp2_with fail
  rw [node_field]
  go_wp2_with fail
  refine (unhide HFI _ _ _ (unhide HA3) (unhide HBY)).mono ?_
  rintro e w2 ⟨⟨v, rfl, hot⟩, hb2⟩
  obtain ⟨va, vn, vc, hv⟩ : ∃ a n c, v = .slice a n c := by
    obtain ⟨l, hr, -⟩ := hot
    obtain ⟨a', c', h⟩ := own_sl hr
    exact ⟨_, _, _, h⟩
  subst hv
  have HBW : Hid (Below (w.alloc (.cells zTree 24)).heap.size (w.alloc (.cells zTree 24)) w2) := unhide HLOW _ ((unhide HB3).trans (hb2.mono (unhide HB3).size))
  obtain ⟨r0, r1, z0, z1⟩ := room_cells (unhide HBW)
  have HDF := hide (hot.room (Nat.lt_of_lt_of_le (unhide HSZ) (unhide HB3).size) (.slice va vn vc) (.int .i64 nw))
  have HF := hide (room_below (unhide HBW) (.slice va vn vc) (.int .i64 nw))
  clear hot hb2
  go_wp2_with fail
  refine bodyPost_ret (v := .tuple #[.agg #[.slice va vn vc, .int .i64 nw], .int .i64 er]) (by simp [results, Tryz.results123, go_sem, r0, r1]) rfl ?_
  exact ⟨⟨_, rfl, unhide HDF⟩, unhide HF⟩
end Go.Proofs.YtpcklgbcabpilaaGreatDoor.Ca
