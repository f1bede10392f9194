package opc_test

// chapter is the chapter's table of opcodes, as it stands there.
const chapter = `
| 00 | unreachable | nothing | - |  |
| 01 | nop | nothing | - |  |
| 02 | block | a block's type | - |  |
| 03 | loop | a block's type | - |  |
| 04 | if | a block's type | - |  |
| 05 | else | nothing | - |  |
| 0b | end | nothing | - |  |
| 0c | br | a label | - |  |
| 0d | br_if | a label | - |  |
| 0e | br_table | labels | - |  |
| 0f | return | nothing | - |  |
| 10 | call | an index | - |  |
| 11 | call_indirect | a type, and a byte 0 | - |  |
| 1a | drop | nothing | - |  |
| 1b | select | nothing | - |  |
| 20 | local.get | an index | - |  |
| 21 | local.set | an index | - |  |
| 22 | local.tee | an index | - |  |
| 23 | global.get | an index | - |  |
| 24 | global.set | an index | - |  |
| 28 | i32.load | an access | i32 > i32 | 4 |
| 29 | i64.load | an access | i32 > i64 | 8 |
| 2c | i32.load8_s | an access | i32 > i32 | 1 |
| 2d | i32.load8_u | an access | i32 > i32 | 1 |
| 2e | i32.load16_s | an access | i32 > i32 | 2 |
| 2f | i32.load16_u | an access | i32 > i32 | 2 |
| 30 | i64.load8_s | an access | i32 > i64 | 1 |
| 31 | i64.load8_u | an access | i32 > i64 | 1 |
| 32 | i64.load16_s | an access | i32 > i64 | 2 |
| 33 | i64.load16_u | an access | i32 > i64 | 2 |
| 34 | i64.load32_s | an access | i32 > i64 | 4 |
| 35 | i64.load32_u | an access | i32 > i64 | 4 |
| 36 | i32.store | an access | i32 i32 > | 4 |
| 37 | i64.store | an access | i32 i64 > | 8 |
| 3a | i32.store8 | an access | i32 i32 > | 1 |
| 3b | i32.store16 | an access | i32 i32 > | 2 |
| 3c | i64.store8 | an access | i32 i64 > | 1 |
| 3d | i64.store16 | an access | i32 i64 > | 2 |
| 3e | i64.store32 | an access | i32 i64 > | 4 |
| 3f | memory.size | a byte 0 | > i32 |  |
| 40 | memory.grow | a byte 0 | i32 > i32 |  |
| 41 | i32.const | a constant of 32 bits | > i32 |  |
| 42 | i64.const | a constant of 64 bits | > i64 |  |
| 45 | i32.eqz | nothing | i32 > i32 |  |
| 46 | i32.eq | nothing | i32 i32 > i32 |  |
| 47 | i32.ne | nothing | i32 i32 > i32 |  |
| 48 | i32.lt_s | nothing | i32 i32 > i32 |  |
| 49 | i32.lt_u | nothing | i32 i32 > i32 |  |
| 4a | i32.gt_s | nothing | i32 i32 > i32 |  |
| 4b | i32.gt_u | nothing | i32 i32 > i32 |  |
| 4c | i32.le_s | nothing | i32 i32 > i32 |  |
| 4d | i32.le_u | nothing | i32 i32 > i32 |  |
| 4e | i32.ge_s | nothing | i32 i32 > i32 |  |
| 4f | i32.ge_u | nothing | i32 i32 > i32 |  |
| 50 | i64.eqz | nothing | i64 > i32 |  |
| 51 | i64.eq | nothing | i64 i64 > i32 |  |
| 52 | i64.ne | nothing | i64 i64 > i32 |  |
| 53 | i64.lt_s | nothing | i64 i64 > i32 |  |
| 54 | i64.lt_u | nothing | i64 i64 > i32 |  |
| 55 | i64.gt_s | nothing | i64 i64 > i32 |  |
| 56 | i64.gt_u | nothing | i64 i64 > i32 |  |
| 57 | i64.le_s | nothing | i64 i64 > i32 |  |
| 58 | i64.le_u | nothing | i64 i64 > i32 |  |
| 59 | i64.ge_s | nothing | i64 i64 > i32 |  |
| 5a | i64.ge_u | nothing | i64 i64 > i32 |  |
| 67 | i32.clz | nothing | i32 > i32 |  |
| 68 | i32.ctz | nothing | i32 > i32 |  |
| 69 | i32.popcnt | nothing | i32 > i32 |  |
| 6a | i32.add | nothing | i32 i32 > i32 |  |
| 6b | i32.sub | nothing | i32 i32 > i32 |  |
| 6c | i32.mul | nothing | i32 i32 > i32 |  |
| 6d | i32.div_s | nothing | i32 i32 > i32 |  |
| 6e | i32.div_u | nothing | i32 i32 > i32 |  |
| 6f | i32.rem_s | nothing | i32 i32 > i32 |  |
| 70 | i32.rem_u | nothing | i32 i32 > i32 |  |
| 71 | i32.and | nothing | i32 i32 > i32 |  |
| 72 | i32.or | nothing | i32 i32 > i32 |  |
| 73 | i32.xor | nothing | i32 i32 > i32 |  |
| 74 | i32.shl | nothing | i32 i32 > i32 |  |
| 75 | i32.shr_s | nothing | i32 i32 > i32 |  |
| 76 | i32.shr_u | nothing | i32 i32 > i32 |  |
| 77 | i32.rotl | nothing | i32 i32 > i32 |  |
| 78 | i32.rotr | nothing | i32 i32 > i32 |  |
| 79 | i64.clz | nothing | i64 > i64 |  |
| 7a | i64.ctz | nothing | i64 > i64 |  |
| 7b | i64.popcnt | nothing | i64 > i64 |  |
| 7c | i64.add | nothing | i64 i64 > i64 |  |
| 7d | i64.sub | nothing | i64 i64 > i64 |  |
| 7e | i64.mul | nothing | i64 i64 > i64 |  |
| 7f | i64.div_s | nothing | i64 i64 > i64 |  |
| 80 | i64.div_u | nothing | i64 i64 > i64 |  |
| 81 | i64.rem_s | nothing | i64 i64 > i64 |  |
| 82 | i64.rem_u | nothing | i64 i64 > i64 |  |
| 83 | i64.and | nothing | i64 i64 > i64 |  |
| 84 | i64.or | nothing | i64 i64 > i64 |  |
| 85 | i64.xor | nothing | i64 i64 > i64 |  |
| 86 | i64.shl | nothing | i64 i64 > i64 |  |
| 87 | i64.shr_s | nothing | i64 i64 > i64 |  |
| 88 | i64.shr_u | nothing | i64 i64 > i64 |  |
| 89 | i64.rotl | nothing | i64 i64 > i64 |  |
| 8a | i64.rotr | nothing | i64 i64 > i64 |  |
| a7 | i32.wrap_i64 | nothing | i64 > i32 |  |
| ac | i64.extend_i32_s | nothing | i32 > i64 |  |
| ad | i64.extend_i32_u | nothing | i32 > i64 |  |
`
