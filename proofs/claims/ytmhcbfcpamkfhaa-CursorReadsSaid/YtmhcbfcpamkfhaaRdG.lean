/- Walks: the law CursorReads, where there are not too many bytes and calls. -/
import Derived.Test.YtmhcbfcpamkfhaaRd
import Derived.Deep.DeepCutAuto
namespace Go.Proofs.Ytmhcbfcpamkfhaa
open Go.RowKit
set_option linter.unusedVariables false

set_option maxHeartbeats 4000000 in
set_option maxRecDepth 100000 in
theorem reads_good (A : Option Addr) (c : Nat) (l : List UInt8) (A1 : Option Addr) (n1 c1 : Nat) (zs : List Int) (w : World) (hv : Sl w 0 w.heap.size (.slice A l.length c) l) (hn : l.length ≤ 2000) (h1 : IsRow .i64 w A1 n1 c1 zs) (hn1 : n1 ≤ 100) :
    Calls Try.prog 4 #[.slice A l.length c, .slice A1 n1 c1] w fun e w' => e = .returned (.bool true) ∧ Below w.heap.size w w' := by
  have hd1 : decide ((2000 : Int) < l.length) = false := by simp; omega
  have hd2 : decide ((100 : Int) < n1) = false := by simp; omega
  have HV := Lib.hid hv
  have HZ := Lib.hid h1
  clear hv h1
  go_enter Try.func4, Try.ntmps4
  go_wp2_with (first
    | (at_builtin; refine wpList_app _ rfl _ _ _ rfl w.heap.size Try.underlying22 info8 _ [] rfl (Ow.empty_ _ _ (Nat.le_refl _)) 0 w.heap.size _ l rfl (HV.out.alloc (Nat.le_refl _) _) (by simp; omega) (by simp) ?_; intro v2 w2 o2 g2 hj; clear hj; rw [List.nil_append] at o2; have b2 : Below w.heap.size w w2 := below_of_grown (grown_new (p := 0) (u := none) g2) (fun k h => by cases h); clear g2; obtain ⟨A2, c2, rfl, -⟩ := o2.sl; have O2 := Lib.hid o2; have B2 := Lib.hid b2; clear o2 b2)
    | (go_at_call 15; refine (new_any _ l w.heap.size _ O2.out.sl (by omega)).mono ?_; rintro e w3 ⟨g, v, rfl, r3, b3⟩; have R3 := Lib.hid r3; have B3 := Lib.hid b3; clear r3 b3))
  have hL : (l.length : Int) ≤ 2000 := by omega
  generalize hw4 : w3.alloc _ = w4
  have b4 : Below w.heap.size w w4 := by rw [← hw4]; exact (B2.out.trans (B3.out.mono B2.out.size)).alloc (Nat.le_trans B2.out.size B3.out.size) _
  have rr4 : RR w4 w.heap.size w3.heap.size (.slice A l.length c) l 0 false := by
    refine ⟨?_, HV.out.below b4, Nat.le_trans B2.out.size B3.out.size, Nat.zero_le _, by omega⟩
    rw [← hw4]
    exact Row.new _ _ _
  have rs4 : RS w2.heap.size g w3.heap.size v (.slice A l.length c) l w w4 0 false := by
    refine ⟨?_, rr4, b4, B2.out.size, fun e => ?_⟩
    · rw [← hw4]; exact R3.out.alloc _
    · have := R3.out.row.lt; omega
  have o4 : Ow w4 w.heap.size (.slice A2 l.length c2) l := by rw [← hw4]; exact (O2.out.below B3.out (Nat.le_refl _)).alloc _
  have hin : ∀ k, (Value.slice A2 l.length c2).ownBlock = some k → w.heap.size ≤ k ∧ k < w2.heap.size := O2.out.lt
  have hgr : w2.heap.size ≤ w3.heap.size := B3.out.size
  have hR4 := Lib.hid rs4
  have hO4 := Lib.hid o4
  have HIN := Lib.hid hin
  clear rs4 rr4 b4 hw4 o4 hin O2 B2 B3 R3
  generalize w3.heap.size = gr at *
  generalize w2.heap.size = B at *
  clear w3 w2
  go_wp2
  go_loopw [38] (fun i wr => ∃ (q : Nat) (ns : List UInt8), q ≤ l.length ∧ i = .int .i64 q ∧ ns.length = l.length ∧ Ow wr w.heap.size (.slice A2 l.length c2) ns ∧ w4.grownBy wr (Value.slice A2 l.length c2).ownBlock) (fun i _ => l.length - (intOf i).toNat)
  case atStart => exact ⟨0, l, by omega, rfl, rfl, hO4.out, World.grownBy.refl _ _⟩
  case round =>
    obtain ⟨q, ns, hq, rfl, hnl, on, gn⟩ := hrel
    by_cases hq2 : q < l.length
    · obtain ⟨b, c9, hV, hlc, -⟩ := on.form_ (by rintro rfl; simp at hnl; omega)
      rw [hnl] at hV hlc
      injection hV with hV1 _ hV2
      subst hV1 hV2
      have on' : Ow wr w.heap.size (.slice (some ⟨b, 0, none⟩) ns.length c2) ns := by rw [hnl]; exact on
      obtain ⟨y, hy⟩ : ∃ y, ns[q]? = some y := ⟨_, List.getElem?_eq_getElem (by omega)⟩
      have hcb : wr.cell? ⟨b, q, none⟩ = some (b8 y) := by rw [World.ownsRow.cellAt on' q (by omega), List.getElem?_map, hy]; rfl
      have hfb : wr.frozen? ⟨b, q, none⟩ = false := World.ownsRow.frozenAt on' q
      unfold b8 at hcb
      obtain ⟨z, hz⟩ : ∃ z : Int, z = (y.toNat : Int) := ⟨_, rfl⟩
      rw [← hz] at hcb
      have z0 : 0 ≤ z := by omega
      have z1 : z ≤ 255 := by have := y.toNat_lt; omega
      have ON := Lib.hid on'
      have HZ0 := Lib.hid hz
      have HNL := Lib.hid hnl
      have GN := Lib.hid gn
      have hqi : (q : Int) < l.length := by omega
      clear on on' hz hnl gn hy
      go_wp2
      have e9 : b8 (UInt8.ofNat (y.toNat + 1)) = .int .u8 ((z + 1) % 256) := by unfold b8; rw [u8_mod, HZ0.out, Int.natCast_add]; rfl
      have hs9 := Ow.stored ON.out q (UInt8.ofNat (y.toNat + 1))
      rw [e9, HNL.out] at hs9
      go_roundw
      case rel => exact ⟨q + 1, ns.set q (UInt8.ofNat (y.toNat + 1)), by omega, by go_num, by rw [List.length_set]; exact HNL.out, hs9, GN.out.trans (grown_set _ _ _ _)⟩
      case measure => simp [intOf]; omega
    · have hge : l.length ≤ q := by omega
      have rs5 : RS B g gr v (.slice A l.length c) l w wr 0 false := hR4.out.spoilIn gn HIN.out hgr
      have hqi : decide ((q : Int) < l.length) = false := by simp; omega
      have hvlt : ∀ k, v.ownBlock = some k → k < wr.heap.size := fun k hk => (rs5.rd.own.lt k hk).2
      have hglt : g < wr.heap.size := rs5.rd.row.lt
      have hgrlt : gr < wr.heap.size := rs5.rr.lt
      have hszw : w.heap.size ≤ wr.heap.size := rs5.bel.size
      have H5 := Lib.hid rs5
      have HVL := Lib.hid hvlt
      clear on gn rs5 hR4 hO4 HIN hgr hvlt hnl hq2
      generalize hw5 : wr = w5 at *
      clear hw5 wr
      go_wp2
      rw [show decide (q < l.length) = false from decide_eq_false (by omega)]
      go_loopw [50] (fun i wr => ∃ (k p : Nat) (x : Bool), k ≤ n1 ∧ i = .int .i64 k ∧ RS B g gr v (.slice A l.length c) l w wr p x ∧ w5.heap.size ≤ wr.heap.size) (fun i _ => n1 - (intOf i).toNat)
      case atStart => exact ⟨0, 0, false, by omega, rfl, H5.out, Nat.le_refl _⟩
      case round =>
        obtain ⟨k, p, x, hk, rfl, hst, hsz⟩ := hrel
        by_cases hk2 : k < n1
        · obtain ⟨bz, oz, z, rfl, hcz, zlo, zhi⟩ := row_cell HZ.out hst.bel k hk2
          have hki : (k : Int) < n1 := by omega
          have HST := Lib.hid hst
          clear hst
          by_cases hz0 : z = 0
          · obtain ⟨r, q2, y, hr, hrm⟩ := rd_open l p x 1 255 (by omega) (by omega)
            have E0 := Lib.hid hr
            clear hr
            subst hz0
            go_upto_region 38 with (first | (go_at_call 16; refine (U8_spec E0.out _ HST.out.rd).mono ?_; rintro e wa ⟨rfl, hra, ga⟩; have HA := Lib.hid (HST.out.one ga); have hsa : wr.heap.size ≤ wa.heap.size := ga.size; have HRA := Lib.hid hra; clear hra ga) | (go_at_call 17; refine (refNumber_spec 1 1 E0.out rfl _ HA.out.1 (by omega) (by omega)).mono ?_; rintro e wb ⟨rfl, hrb, gb⟩; have hst2 := HST.out.two HA.out.2 HRA.out hrb HA.out.1 gb; have hsz2 : w5.heap.size ≤ wb.heap.size := Nat.le_trans hsz (Nat.le_trans hsa gb.size); clear hrb gb HRA HA hsa))
            clear HST
            have c0 := hst2.rr.c0
            have c1 := hst2.rr.c1
            have c2 := hst2.rr.c2
            have HS2 := Lib.hid hst2
            clear hst2
            go_wp2
            go_quiet ((first | (go_at_call 25; exact quiet_left_ (Bad_any _ (HS2.out.rd.drewN _))) | (go_at_call 26; exact quiet_left_ (At_any _ (HS2.out.rd.drewN _))) | (go_at_call 27; exact Calls.quiet_of (Left_any _ (HS2.out.rd.drewN _))) | (go_at_call 28; exact Calls.quiet_of (refLeft_any _ (HS2.out.rr.drewN _)))))
            go_wp2
            go_roundw
            case rel => exact ⟨k + 1, _, _, by omega, by go_num, HS2.out.drewN _, hsz2⟩
            case measure => simp [intOf]; omega
          · by_cases hz1 : z = 1
            · obtain ⟨r, q2, y, hr, hrm⟩ := rd_open l p x 2 65535 (by omega) (by omega)
              have E0 := Lib.hid hr
              clear hr
              subst hz1
              go_upto_region 38 with (first | (go_at_call 18; refine (U16_spec E0.out _ HST.out.rd).mono ?_; rintro e wa ⟨rfl, hra, ga⟩; have HA := Lib.hid (HST.out.one ga); have hsa : wr.heap.size ≤ wa.heap.size := ga.size; have HRA := Lib.hid hra; clear hra ga) | (go_at_call 17; refine (refNumber_spec 2 2 E0.out rfl _ HA.out.1 (by omega) (by omega)).mono ?_; rintro e wb ⟨rfl, hrb, gb⟩; have hst2 := HST.out.two HA.out.2 HRA.out hrb HA.out.1 gb; have hsz2 : w5.heap.size ≤ wb.heap.size := Nat.le_trans hsz (Nat.le_trans hsa gb.size); clear hrb gb HRA HA hsa))
              clear HST
              have c0 := hst2.rr.c0
              have c1 := hst2.rr.c1
              have c2 := hst2.rr.c2
              have HS2 := Lib.hid hst2
              clear hst2
              go_wp2
              go_quiet ((first | (go_at_call 25; exact quiet_left_ (Bad_any _ (HS2.out.rd.drewN _))) | (go_at_call 26; exact quiet_left_ (At_any _ (HS2.out.rd.drewN _))) | (go_at_call 27; exact Calls.quiet_of (Left_any _ (HS2.out.rd.drewN _))) | (go_at_call 28; exact Calls.quiet_of (refLeft_any _ (HS2.out.rr.drewN _)))))
              go_wp2
              go_roundw
              case rel => exact ⟨k + 1, _, _, by omega, by go_num, HS2.out.drewN _, hsz2⟩
              case measure => simp [intOf]; omega
            · by_cases hz2 : z = 2
              · obtain ⟨r, q2, y, hr, hrm⟩ := rd_open l p x 4 4294967295 (by omega) (by omega)
                have E0 := Lib.hid hr
                clear hr
                subst hz2
                go_upto_region 38 with (first | (go_at_call 19; refine (U32_spec E0.out _ HST.out.rd).mono ?_; rintro e wa ⟨rfl, hra, ga⟩; have HA := Lib.hid (HST.out.one ga); have hsa : wr.heap.size ≤ wa.heap.size := ga.size; have HRA := Lib.hid hra; clear hra ga) | (go_at_call 17; refine (refNumber_spec 4 4 E0.out rfl _ HA.out.1 (by omega) (by omega)).mono ?_; rintro e wb ⟨rfl, hrb, gb⟩; have hst2 := HST.out.two HA.out.2 HRA.out hrb HA.out.1 gb; have hsz2 : w5.heap.size ≤ wb.heap.size := Nat.le_trans hsz (Nat.le_trans hsa gb.size); clear hrb gb HRA HA hsa))
                clear HST
                have c0 := hst2.rr.c0
                have c1 := hst2.rr.c1
                have c2 := hst2.rr.c2
                have HS2 := Lib.hid hst2
                clear hst2
                go_wp2
                go_quiet ((first | (go_at_call 25; exact quiet_left_ (Bad_any _ (HS2.out.rd.drewN _))) | (go_at_call 26; exact quiet_left_ (At_any _ (HS2.out.rd.drewN _))) | (go_at_call 27; exact Calls.quiet_of (Left_any _ (HS2.out.rd.drewN _))) | (go_at_call 28; exact Calls.quiet_of (refLeft_any _ (HS2.out.rr.drewN _)))))
                go_wp2
                go_roundw
                case rel => exact ⟨k + 1, _, _, by omega, by go_num, HS2.out.drewN _, hsz2⟩
                case measure => simp [intOf]; omega
              · by_cases hz3 : z = 3
                · obtain ⟨r, q2, y, hr, hrm⟩ := rd_open l p x 8 18446744073709551615 (by omega) (by omega)
                  have E0 := Lib.hid hr
                  clear hr
                  subst hz3
                  go_upto_region 38 with (first | (go_at_call 20; refine (U64_spec E0.out _ HST.out.rd).mono ?_; rintro e wa ⟨rfl, hra, ga⟩; have HA := Lib.hid (HST.out.one ga); have hsa : wr.heap.size ≤ wa.heap.size := ga.size; have HRA := Lib.hid hra; clear hra ga) | (go_at_call 17; refine (refNumber_spec 8 8 E0.out rfl _ HA.out.1 (by omega) (by omega)).mono ?_; rintro e wb ⟨rfl, hrb, gb⟩; have hst2 := HST.out.two HA.out.2 HRA.out hrb HA.out.1 gb; have hsz2 : w5.heap.size ≤ wb.heap.size := Nat.le_trans hsz (Nat.le_trans hsa gb.size); clear hrb gb HRA HA hsa))
                  clear HST
                  have c0 := hst2.rr.c0
                  have c1 := hst2.rr.c1
                  have c2 := hst2.rr.c2
                  have HS2 := Lib.hid hst2
                  clear hst2
                  go_wp2
                  go_quiet ((first | (go_at_call 25; exact quiet_left_ (Bad_any _ (HS2.out.rd.drewN _))) | (go_at_call 26; exact quiet_left_ (At_any _ (HS2.out.rd.drewN _))) | (go_at_call 27; exact Calls.quiet_of (Left_any _ (HS2.out.rd.drewN _))) | (go_at_call 28; exact Calls.quiet_of (refLeft_any _ (HS2.out.rr.drewN _)))))
                  go_wp2
                  go_roundw
                  case rel => exact ⟨k + 1, _, _, by omega, by go_num, HS2.out.drewN _, hsz2⟩
                  case measure => simp [intOf]; omega
                · by_cases hz4 : z = 4
                  · obtain ⟨r, q2, y, hr⟩ : ∃ r q y, rd l p x 0 = (r, q, y) := ⟨_, _, _, rfl⟩
                    have E0 := Lib.hid hr
                    clear hr
                    subst hz4
                    go_upto_region 38 with (first | (go_at_call 21; refine (Uint_spec E0.out _ HST.out.rd).mono ?_; rintro e wa ⟨rfl, hra, ga⟩; have HA := Lib.hid (HST.out.one ga); have hsa : wr.heap.size ≤ wa.heap.size := ga.size; have HRA := Lib.hid hra; clear hra ga) | (go_at_call 22; refine (refUint_spec E0.out _ HA.out.1).mono ?_; rintro e wb ⟨rfl, hrb, gb⟩; have hst2 := HST.out.two HA.out.2 HRA.out hrb HA.out.1 gb; have hsz2 : w5.heap.size ≤ wb.heap.size := Nat.le_trans hsz (Nat.le_trans hsa gb.size); clear hrb gb HRA HA hsa))
                    clear HST
                    have c0 := hst2.rr.c0
                    have c1 := hst2.rr.c1
                    have c2 := hst2.rr.c2
                    have HS2 := Lib.hid hst2
                    clear hst2
                    go_wp2
                    go_quiet ((first | (go_at_call 25; exact quiet_left_ (Bad_any _ (HS2.out.rd.drewN _))) | (go_at_call 26; exact quiet_left_ (At_any _ (HS2.out.rd.drewN _))) | (go_at_call 27; exact Calls.quiet_of (Left_any _ (HS2.out.rd.drewN _))) | (go_at_call 28; exact Calls.quiet_of (refLeft_any _ (HS2.out.rr.drewN _)))))
                    go_wp2
                    go_roundw
                    case rel => exact ⟨k + 1, _, _, by omega, by go_num, HS2.out.drewN _, hsz2⟩
                    case measure => simp [intOf]; omega
                  · by_cases hz5 : 4 < z
                    · obtain ⟨s, q2, y, hr⟩ : ∃ s q y, rb l p x (z - 5) = (s, q, y) := ⟨_, _, _, rfl⟩
                      have hsl : s.length ≤ 2000 := by have h9 := rb_short l p x (z - 5); rw [hr] at h9; simp only at h9; omega
                      have E0 := Lib.hid hr
                      clear hr
                      have n1' : g < wr.heap.size := Nat.lt_of_lt_of_le hglt hsz
                      have n2' : gr < wr.heap.size := Nat.lt_of_lt_of_le hgrlt hsz
                      have n0' : w.heap.size ≤ wr.heap.size := Nat.le_trans hszw hsz
                      have HVL2 := Lib.hid (fun j (hj : v.ownBlock = some j) => Nat.lt_of_lt_of_le (HVL.out j hj) hsz)
                      obtain ⟨S, hS⟩ : ∃ S : ByteArray, S = ⟨s.toArray⟩ := ⟨_, rfl⟩
                      go_upto_region 21 with (first | (go_at_call 23; refine (Bytes_to E0.out _ HST.out.rd).mono ?_; rintro e wa ⟨Aa, ca, rfl, oa, hra, ga⟩; have HA := Lib.hid (HST.out.one ga); have hsa : wr.heap.size ≤ wa.heap.size := ga.size; have OA := Lib.hid oa; have HRA := Lib.hid hra; clear hra ga oa) | (go_at_call 24; refine (refBytes_to E0.out _ HA.out.1).mono ?_; rintro e wb ⟨Ab, cb, rfl, ob, hrb, gb⟩; have hst2 := HST.out.two HA.out.2 HRA.out hrb HA.out.1 gb; have oa' := OA.out.kept gb (fun j hj e => by injection e with e; subst e; exact OA.out.not_row HA.out.1.row (by decide) hj); have hsz2 : w5.heap.size ≤ wb.heap.size := Nat.le_trans hsz (Nat.le_trans hsa gb.size); clear gb hrb HRA HA hsa))
                      have hcx : (convert 22 9 (.slice Aa s.length ca)).run Try.prog wb = .ok (.string S) wb := by rw [hS]; exact str_sl oa'.sl
                      have hcy : (convert 22 9 (.slice Ab s.length cb)).run Try.prog wb = .ok (.string S) wb := by rw [hS]; exact str_sl ob.sl
                      have HS2 := Lib.hid hst2
                      have OA2 := Lib.hid oa'
                      have E1 := Lib.hid hS
                      obtain ⟨n0, hn0⟩ : ∃ n0, n0 = wr.heap.size := ⟨_, rfl⟩
                      rw [← hn0] at n1' n2' n0'
                      have HN0 := Lib.hid hn0
                      have hl2 : (s.length : Int) ≤ 2000 := by omega
                      clear hst2 oa' ob HST OA hS hn0
                      go_wp2
                      clear hcx hcy
                      have OA3 := Lib.hid (show Ow wb n0 (.slice Aa s.length ca) s by rw [HN0.out]; exact OA2.out)
                      have HVL3 := Lib.hid (show ∀ j, v.ownBlock = some j → j < n0 by rw [HN0.out]; exact HVL2.out)
                      clear OA2 HVL2 HN0 hsz
                      go_loopw [73] (fun i wq => ∃ (j : Nat) (ns : List UInt8), j ≤ s.length ∧ i = .int .i64 j ∧ ns.length = s.length ∧ Ow wq n0 (.slice Aa s.length ca) ns ∧ wb.grownBy wq (Value.slice Aa s.length ca).ownBlock) (fun i _ => s.length - (intOf i).toNat)
                      case atStart => exact ⟨0, s, by omega, rfl, rfl, OA3.out, World.grownBy.refl _ _⟩
                      case round =>
                        obtain ⟨j, ms, hj, rfl, hnl, on, gn⟩ := hrel
                        by_cases hj2 : j < s.length
                        · obtain ⟨b, c9, hV, hlc, -⟩ := on.form_ (by rintro rfl; simp at hnl; omega)
                          rw [hnl] at hV hlc
                          injection hV with hV1 _ hV2
                          subst hV1 hV2
                          have on' : Ow wr n0 (.slice (some ⟨b, 0, none⟩) ms.length ca) ms := by rw [hnl]; exact on
                          obtain ⟨u, hy⟩ : ∃ u, ms[j]? = some u := ⟨_, List.getElem?_eq_getElem (by omega)⟩
                          have hcb : wr.cell? ⟨b, j, none⟩ = some (b8 u) := by rw [World.ownsRow.cellAt on' j (by omega), List.getElem?_map, hy]; rfl
                          have hfb : wr.frozen? ⟨b, j, none⟩ = false := World.ownsRow.frozenAt on' j
                          unfold b8 at hcb
                          obtain ⟨t, ht⟩ : ∃ t : Int, t = (u.toNat : Int) := ⟨_, rfl⟩
                          rw [← ht] at hcb
                          have t0 : 0 ≤ t := by omega
                          have t1 : t ≤ 255 := by have := u.toNat_lt; omega
                          have ON := Lib.hid on'
                          have HT0 := Lib.hid ht
                          have HNL := Lib.hid hnl
                          have GN := Lib.hid gn
                          have hji : (j : Int) < s.length := by omega
                          clear on on' ht hnl gn hy
                          go_wp2
                          have e9 : b8 (UInt8.ofNat (u.toNat + 1)) = .int .u8 ((t + 1) % 256) := by unfold b8; rw [u8_mod, HT0.out, Int.natCast_add]; rfl
                          have hs9 := Ow.stored ON.out j (UInt8.ofNat (u.toNat + 1))
                          rw [e9, HNL.out] at hs9
                          go_roundw
                          case rel => exact ⟨j + 1, ms.set j (UInt8.ofNat (u.toNat + 1)), by omega, by go_num, by rw [List.length_set]; exact HNL.out, hs9, GN.out.trans (grown_set _ _ _ _)⟩
                          case measure => simp [intOf]; omega
                        · have hst2 : RS B g gr v (.slice A l.length c) l w wr q2 y := HS2.out.spoil gn (fun b hb => (on.lt b hb).1) n0' n1' n2' HVL3.out
                          have hsz3 : w5.heap.size ≤ wr.heap.size := Nat.le_trans hsz2 gn.size
                          have hji : decide ((j : Int) < s.length) = false := by simp; omega
                          clear hsz2 on gn hnl HS2 OA3 HVL3
                          have hsz2 := hsz3
                          clear hsz3
                          have c0 := hst2.rr.c0
                          have c1 := hst2.rr.c1
                          have c2 := hst2.rr.c2
                          have HS2 := Lib.hid hst2
                          clear hst2
                          go_wp2
                          go_quiet ((first | (go_at_call 25; exact quiet_left_ (Bad_any _ (HS2.out.rd.drewN _))) | (go_at_call 26; exact quiet_left_ (At_any _ (HS2.out.rd.drewN _))) | (go_at_call 27; exact Calls.quiet_of (Left_any _ (HS2.out.rd.drewN _))) | (go_at_call 28; exact Calls.quiet_of (refLeft_any _ (HS2.out.rr.drewN _)))))
                          go_wp2
                          go_roundw
                          case rel => exact ⟨k + 1, _, _, by omega, by go_num, HS2.out.drewN _, hsz2⟩
                          case measure => simp [intOf]; omega
                    · have hz6 : ¬ 4 < z := hz5
                      obtain ⟨s, q2, y, hr⟩ : ∃ s q y, rb l p x (z) = (s, q, y) := ⟨_, _, _, rfl⟩
                      have hsl : s.length ≤ 2000 := by have h9 := rb_short l p x (z); rw [hr] at h9; simp only at h9; omega
                      have E0 := Lib.hid hr
                      clear hr
                      have n1' : g < wr.heap.size := Nat.lt_of_lt_of_le hglt hsz
                      have n2' : gr < wr.heap.size := Nat.lt_of_lt_of_le hgrlt hsz
                      have n0' : w.heap.size ≤ wr.heap.size := Nat.le_trans hszw hsz
                      have HVL2 := Lib.hid (fun j (hj : v.ownBlock = some j) => Nat.lt_of_lt_of_le (HVL.out j hj) hsz)
                      obtain ⟨S, hS⟩ : ∃ S : ByteArray, S = ⟨s.toArray⟩ := ⟨_, rfl⟩
                      go_upto_region 21 with (first | (go_at_call 23; refine (Bytes_to E0.out _ HST.out.rd).mono ?_; rintro e wa ⟨Aa, ca, rfl, oa, hra, ga⟩; have HA := Lib.hid (HST.out.one ga); have hsa : wr.heap.size ≤ wa.heap.size := ga.size; have OA := Lib.hid oa; have HRA := Lib.hid hra; clear hra ga oa) | (go_at_call 24; refine (refBytes_to E0.out _ HA.out.1).mono ?_; rintro e wb ⟨Ab, cb, rfl, ob, hrb, gb⟩; have hst2 := HST.out.two HA.out.2 HRA.out hrb HA.out.1 gb; have oa' := OA.out.kept gb (fun j hj e => by injection e with e; subst e; exact OA.out.not_row HA.out.1.row (by decide) hj); have hsz2 : w5.heap.size ≤ wb.heap.size := Nat.le_trans hsz (Nat.le_trans hsa gb.size); clear gb hrb HRA HA hsa))
                      have hcx : (convert 22 9 (.slice Aa s.length ca)).run Try.prog wb = .ok (.string S) wb := by rw [hS]; exact str_sl oa'.sl
                      have hcy : (convert 22 9 (.slice Ab s.length cb)).run Try.prog wb = .ok (.string S) wb := by rw [hS]; exact str_sl ob.sl
                      have HS2 := Lib.hid hst2
                      have OA2 := Lib.hid oa'
                      have E1 := Lib.hid hS
                      obtain ⟨n0, hn0⟩ : ∃ n0, n0 = wr.heap.size := ⟨_, rfl⟩
                      rw [← hn0] at n1' n2' n0'
                      have HN0 := Lib.hid hn0
                      have hl2 : (s.length : Int) ≤ 2000 := by omega
                      clear hst2 oa' ob HST OA hS hn0
                      go_wp2
                      clear hcx hcy
                      have OA3 := Lib.hid (show Ow wb n0 (.slice Aa s.length ca) s by rw [HN0.out]; exact OA2.out)
                      have HVL3 := Lib.hid (show ∀ j, v.ownBlock = some j → j < n0 by rw [HN0.out]; exact HVL2.out)
                      clear OA2 HVL2 HN0 hsz
                      go_loopw [73] (fun i wq => ∃ (j : Nat) (ns : List UInt8), j ≤ s.length ∧ i = .int .i64 j ∧ ns.length = s.length ∧ Ow wq n0 (.slice Aa s.length ca) ns ∧ wb.grownBy wq (Value.slice Aa s.length ca).ownBlock) (fun i _ => s.length - (intOf i).toNat)
                      case atStart => exact ⟨0, s, by omega, rfl, rfl, OA3.out, World.grownBy.refl _ _⟩
                      case round =>
                        obtain ⟨j, ms, hj, rfl, hnl, on, gn⟩ := hrel
                        by_cases hj2 : j < s.length
                        · obtain ⟨b, c9, hV, hlc, -⟩ := on.form_ (by rintro rfl; simp at hnl; omega)
                          rw [hnl] at hV hlc
                          injection hV with hV1 _ hV2
                          subst hV1 hV2
                          have on' : Ow wr n0 (.slice (some ⟨b, 0, none⟩) ms.length ca) ms := by rw [hnl]; exact on
                          obtain ⟨u, hy⟩ : ∃ u, ms[j]? = some u := ⟨_, List.getElem?_eq_getElem (by omega)⟩
                          have hcb : wr.cell? ⟨b, j, none⟩ = some (b8 u) := by rw [World.ownsRow.cellAt on' j (by omega), List.getElem?_map, hy]; rfl
                          have hfb : wr.frozen? ⟨b, j, none⟩ = false := World.ownsRow.frozenAt on' j
                          unfold b8 at hcb
                          obtain ⟨t, ht⟩ : ∃ t : Int, t = (u.toNat : Int) := ⟨_, rfl⟩
                          rw [← ht] at hcb
                          have t0 : 0 ≤ t := by omega
                          have t1 : t ≤ 255 := by have := u.toNat_lt; omega
                          have ON := Lib.hid on'
                          have HT0 := Lib.hid ht
                          have HNL := Lib.hid hnl
                          have GN := Lib.hid gn
                          have hji : (j : Int) < s.length := by omega
                          clear on on' ht hnl gn hy
                          go_wp2
                          have e9 : b8 (UInt8.ofNat (u.toNat + 1)) = .int .u8 ((t + 1) % 256) := by unfold b8; rw [u8_mod, HT0.out, Int.natCast_add]; rfl
                          have hs9 := Ow.stored ON.out j (UInt8.ofNat (u.toNat + 1))
                          rw [e9, HNL.out] at hs9
                          go_roundw
                          case rel => exact ⟨j + 1, ms.set j (UInt8.ofNat (u.toNat + 1)), by omega, by go_num, by rw [List.length_set]; exact HNL.out, hs9, GN.out.trans (grown_set _ _ _ _)⟩
                          case measure => simp [intOf]; omega
                        · have hst2 : RS B g gr v (.slice A l.length c) l w wr q2 y := HS2.out.spoil gn (fun b hb => (on.lt b hb).1) n0' n1' n2' HVL3.out
                          have hsz3 : w5.heap.size ≤ wr.heap.size := Nat.le_trans hsz2 gn.size
                          have hji : decide ((j : Int) < s.length) = false := by simp; omega
                          clear hsz2 on gn hnl HS2 OA3 HVL3
                          have hsz2 := hsz3
                          clear hsz3
                          have c0 := hst2.rr.c0
                          have c1 := hst2.rr.c1
                          have c2 := hst2.rr.c2
                          have HS2 := Lib.hid hst2
                          clear hst2
                          go_wp2
                          go_quiet ((first | (go_at_call 25; exact quiet_left_ (Bad_any _ (HS2.out.rd.drewN _))) | (go_at_call 26; exact quiet_left_ (At_any _ (HS2.out.rd.drewN _))) | (go_at_call 27; exact Calls.quiet_of (Left_any _ (HS2.out.rd.drewN _))) | (go_at_call 28; exact Calls.quiet_of (refLeft_any _ (HS2.out.rr.drewN _)))))
                          go_wp2
                          go_roundw
                          case rel => exact ⟨k + 1, _, _, by omega, by go_num, HS2.out.drewN _, hsz2⟩
                          case measure => simp [intOf]; omega
        · have hki : decide ((k : Int) < n1) = false := by simp; omega
          have HST := Lib.hid hst
          clear hst
          go_wp2_with (go_at_call 8; refine (known_any _).mono ?_; rintro e w9 ⟨rfl, b9⟩)
          go_ret
          exact ⟨rfl, HST.out.bel.trans (b9.mono HST.out.bel.size)⟩
end Go.Proofs.Ytmhcbfcpamkfhaa
